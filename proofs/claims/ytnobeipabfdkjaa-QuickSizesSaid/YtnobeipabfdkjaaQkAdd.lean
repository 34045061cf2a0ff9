/- Layer 34: a code is added to a table. -/
import Derived.Test.YtnobeipabfdkjaaQkTab
import Derived.Deep.RegionLaw
import Derived.Deep.RegionHeld3
import Derived.Deep.DrawnRows
namespace Go.Proofs.Ytnobeipabfdkjaa
open Go.RowKit Go.Maps
attribute [local go_sem ↓] Go.wp_at_zero Go.wp_at_succ

theorem i64_and_low {t W : Nat} (ht : t < 32768) (hW : W ≤ 15) : bits .and .i64 (t : Int) ((2 ^ W - 1 : Nat) : Int) = ((t % 2 ^ W : Nat) : Int) := by
  have hp : (2 : Nat) ^ W ≤ 32768 := Nat.le_trans (Nat.pow_le_pow_right (by decide) hW) (by decide)
  have e : ∀ a : Nat, a < 65536 → (BitVec.ofInt 64 (a : Int)).toNat = a := fun a ha => by
    rw [BitVec.ofInt_natCast, BitVec.toNat_ofNat]; exact Nat.mod_eq_of_lt (by omega)
  have hm := Nat.mod_le t (2 ^ W)
  show IntKind.i64.wrap ((BitVec.ofInt 64 (t : Int) &&& BitVec.ofInt 64 ((2 ^ W - 1 : Nat) : Int)).toNat : Int) = _
  rw [BitVec.toNat_and, e _ (by omega), e _ (by omega), Nat.and_two_pow_sub_one_eq_mod]
  exact IntWalk.i64_in _ (by omega)
theorem rowInfo : (Try.prog.info? 35).map (fun i => (i.zero, i.size, i.bytes)) = some (some (.agg #[.int .i64 0, .int .i64 0, .bool false]), 3, 24) := by kernel_rfl
theorem make_rows (n : Nat) (hn : n ≤ 40000) (W : World) :
    (Instr.makeSlice 57 (.int .i64 (n : Int)) (.int .i64 (n : Int))).run Try.prog W = .ok (.slice (some ⟨W.heap.size, 0, none⟩) n n) (W.alloc (.cells (madeCells #[.int .i64 0, .int .i64 0, .bool false] (n * 3)) 35)) := by
  obtain ⟨i0, hi, hz0, hz1, hz2⟩ := info_parts rowInfo
  have h := run_make (P := Try.prog) W 57 35 i0 (.agg #[.int .i64 0, .int .i64 0, .bool false]) Try.underlying57 hi hz0 .i64 .i64 n n (by omega) (Int.le_refl _) (by rw [hz2]; omega) (by omega)
  simp only [Int.toNat_natCast, hz1] at h
  exact h
theorem made_rows (w : World) (n : Nat) : RB (w.alloc (.cells (madeCells #[.int .i64 0, .int .i64 0, .bool false] (n * 3)) 35)) w.heap.size (List.replicate n r0) := by
  have e : madeCells #[.int .i64 0, .int .i64 0, .bool false] (n * 3) = (((List.replicate n r0).map rowC).flatten).toArray := by
    apply Array.toList_inj.1
    rw [List.toList_toArray]
    apply List.ext_getElem?
    intro i
    rw [Array.getElem?_toList]
    have hfl : (((List.replicate n r0).map rowC).flatten).length = n * 3 := by simp [rowC, List.length_flatten]
    by_cases hi : i < n * 3
    · obtain ⟨h1, h2, h3⟩ := flat_get (List.replicate n r0) (i / 3) r0 (by rw [List.getElem?_replicate, if_pos (by omega)])
      have hl : (madeCells #[Value.int .i64 0, .int .i64 0, .bool false] (n * 3))[i]? = some (#[Value.int .i64 0, .int .i64 0, .bool false][i % 3]!) := by
        unfold madeCells
        simp [hi]
      rw [hl]
      have h3' : i % 3 = 0 ∨ i % 3 = 1 ∨ i % 3 = 2 := by omega
      rcases h3' with h | h | h
      · rw [h, show i = i / 3 * 3 by omega, h1]; rfl
      · rw [h, show i = i / 3 * 3 + 1 by omega, h2]; rfl
      · rw [h, show i = i / 3 * 3 + 2 by omega, h3]; rfl
    · rw [Array.getElem?_eq_none (by rw [size_madeCells]; omega), List.getElem?_eq_none (by rw [hfl]; omega)]
  unfold RB
  rw [e]
  exact heap_alloc_new w _
/-- How many rows are laid behind for a code. -/
def moreT (W : Nat) (q : QS) (t n : Nat) : Nat := if n ≤ W then 0 else if q.rows.getD (t % 2 ^ W) r0 = r0 then 2 ^ (n - W) else 0
def AddPost (w w' : World) (tb g m W : Nat) (q : QS) (D : DataW Unit) (cnt base t s n : Nat) : Prop :=
  ∃ blk' D', LT w' tb g m W (q.add W t s n) blk' D' (cnt + 1) base ∧ sumD D' = sumD D + moreT W q t n ∧ Mod (tbS base) w w'
theorem LT.more1 {w : World} {tb g m W : Nat} {q : QS} {blk : Nat → Nat} {D : DataW Unit} {cnt base : Nat} (h : LT w tb g m W q blk D cnt base) : LT w tb g m W q blk D (cnt + 1) base :=
  ⟨h.tab, h.len, h.rows, h.map.mono (by omega), h.bare, h.more, h.inj, h.ne⟩
/-- The cells of the row that came in, and of the table. -/
structure Seen (V : World) (pb tb g m W N s n : Nat) : Prop where
  x0 : V.cell? ⟨pb, 0, none⟩ = some (.int .i64 (s : Int))
  x1 : V.cell? ⟨pb, 1, none⟩ = some (.int .i64 (n : Int))
  x2 : V.cell? ⟨pb, 2, none⟩ = some (.bool false)
  t0 : V.cell? ⟨tb, 0, none⟩ = some (.int .i64 (W : Int))
  t1 : V.cell? ⟨tb, 1, none⟩ = some (.slice (some ⟨g, 0, none⟩) N N)
  t2 : V.cell? ⟨tb, 2, none⟩ = some (.map (some m))
theorem seen_of {V : World} {pb tb g m W N s n : Nat} (h1 : V.heap[pb]? = some (.cells #[.int .i64 (s : Int), .int .i64 (n : Int), .bool false] 35)) (h2 : V.heap[tb]? = some (.cells #[.int .i64 (W : Int), .slice (some ⟨g, 0, none⟩) N N, .map (some m)] 60)) : Seen V pb tb g m W N s n :=
  ⟨cell_of_row V pb 0 _ _ _ h1, cell_of_row V pb 1 _ _ _ h1, cell_of_row V pb 2 _ _ _ h1, cell_of_row V tb 0 _ _ _ h2, cell_of_row V tb 1 _ _ _ h2, cell_of_row V tb 2 _ _ _ h2⟩
theorem Seen.all {V : World} {pb tb g m W N s n : Nat} (h : Seen V pb tb g m W N s n) : V.cell? ⟨pb, 0, none⟩ = some (.int .i64 (s : Int)) ∧ V.cell? ⟨pb, 1, none⟩ = some (.int .i64 (n : Int)) ∧ V.cell? ⟨pb, 2, none⟩ = some (.bool false) ∧ V.cell? ⟨tb, 0, none⟩ = some (.int .i64 (W : Int)) ∧ V.cell? ⟨tb, 1, none⟩ = some (.slice (some ⟨g, 0, none⟩) N N) ∧ V.cell? ⟨tb, 2, none⟩ = some (.map (some m)) :=
  ⟨h.x0, h.x1, h.x2, h.t0, h.t1, h.t2⟩
set_option maxRecDepth 100000 in
set_option maxHeartbeats 400000 in
theorem add_low (tb g m W t s n cnt base : Nat) (q : QS) (blk : Nat → Nat) (D : DataW Unit) (w : World) (h : LT w tb g m W q blk D cnt base) (hW : W ≤ 15) (ht : t < 2 ^ n) (hn : n ≤ W) :
    Calls Try.prog 28 #[.pointer (some ⟨tb, 0, none⟩), .int .i64 (t : Int), .agg #[.int .i64 (s : Int), .int .i64 (n : Int), .bool false]] w
      fun e w' => e = .returned (.tuple #[]) ∧ AddPost w w' tb g m W q D cnt base t s n := by
  have HADD : Hid (q.add W t s n = ⟨spreadL q.rows t n (s, n, false), q.more⟩ ∧ moreT W q t n = 0) := ⟨by unfold QS.add; rw [if_pos hn], by unfold moreT; rw [if_pos hn]⟩
  obtain ⟨W1, hW1⟩ : ∃ W1, w.alloc (.cells #[.int .i64 (s : Int), .int .i64 (n : Int), .bool false] 35) = W1 := ⟨_, rfl⟩
  have HL1 : Hid (LT W1 tb g m W q blk D cnt base) := by show LT _ _ _ _ _ _ _ _ _ _; rw [← hW1]; exact h.alloc _
  have HM1 : Hid (Mod (tbS base) w W1) := by show Mod _ _ _; rw [← hW1]; exact (Mod.refl _ w).alloc _
  have hx := heap_alloc_new w (.cells #[.int .i64 (s : Int), .int .i64 (n : Int), .bool false] 35)
  rw [hW1] at hx
  have HX1 := Lib.hid hx
  have HGP : Hid (w.heap.size ≠ g) := by have := rb_lt h.rows; show _ ≠ _; omega
  have HTB : Hid (W1.heap[tb]? = some (.cells #[.int .i64 (W : Int), .slice (some ⟨g, 0, none⟩) (2 ^ W) (2 ^ W), .map (some m)] 60)) := HL1.out.tab
  have HNE := Lib.hid h.ne
  have hp : (2 : Nat) ^ W ≤ 32768 := Nat.le_trans (Nat.pow_le_pow_right (by decide) hW) (by decide)
  have HSP : Hid (Calls Try.prog 43 #[.slice (some ⟨g, 0, none⟩) (2 ^ W) (2 ^ W), .int .i64 (t : Int), .int .i64 (n : Int), .agg #[.int .i64 (s : Int), .int .i64 (n : Int), .bool false]] W1.drew.drew
      fun e w' => e = .returned (.tuple #[]) ∧ RB w' g (spreadL q.rows t n (s, n, false)) ∧ Mod (oneB g) W1.drew.drew w') :=
    spread_any g (2 ^ W) n t q.rows (s, n, false) W1.drew.drew HL1.out.len hp (by omega) ht HL1.out.rows
  have hnW : (n : Int) ≤ (W : Int) := by omega
  clear h hx ht hp
  obtain ⟨N, hN⟩ : ∃ N, 2 ^ W = N := ⟨_, rfl⟩
  rw [hN] at HTB HSP
  have S1 := (seen_of HX1.out HTB.out).all
  obtain ⟨x0, x1, x2, t0, t1, t2⟩ := S1
  go_enter Try.func28, Try.ntmps28
  go_upto_region 1 with (fail)
  go_region
  go_upto_region 2 with (fail)
  have S5 := (seen_of (V := W1.drew) HX1.out HTB.out).all
  clear x0 x1 x2 t0 t1 t2
  go_region_held3 (fun V => V.cell? ⟨w.heap.size, 0, none⟩ = some (.int .i64 (s : Int)) ∧ V.cell? ⟨w.heap.size, 1, none⟩ = some (.int .i64 (n : Int)) ∧ V.cell? ⟨w.heap.size, 2, none⟩ = some (.bool false) ∧ V.cell? ⟨tb, 0, none⟩ = some (.int .i64 (W : Int)) ∧ V.cell? ⟨tb, 1, none⟩ = some (.slice (some ⟨g, 0, none⟩) N N) ∧ V.cell? ⟨tb, 2, none⟩ = some (.map (some m))) (first | exact S5 | exact S6)
    ((first
    | (go_at_call 43; refine HSP.out.mono ?_; rintro e w2 ⟨rfl, hr2, hm2⟩; have HR2 := Lib.hid hr2; have HM2 := Lib.hid hm2; have S6 := (seen_of (V := w2) (hm2.keep HX1.out HGP.out) (hm2.keep HTB.out (fun e => HNE.out.1 e.symm))).all; clear hr2 hm2)))
  go_wp2
  refine bodyPost_ret (results_none rfl _ _ _) rfl ⟨rfl, blk, D, ?_, by rw [HADD.out.2]; rfl, ?_⟩
  · rw [HADD.out.1]
    exact ((HL1.out.drewN 2).rows_ HM2.out (spreadL_len _ _ _ _) HR2.out).more1
  · exact (HM1.out.drewN 2).then_ (HM2.out.mono fun k hk => by cases hk; exact HNE.out.2.2.2.1)
theorem zeroRows (w : World) : (zeroValue 57).run Try.prog w = .ok (.slice none 0 0) w := by kernel_rfl
theorem LT.look {V : World} {tb g m W : Nat} {q : QS} {blk : Nat → Nat} {D : DataW Unit} {cnt base x : Nat} {L : List R3} (h : LT V tb g m W q blk D cnt base) (hx : x < 9223372036854775808) (hL : q.more x = some L) :
    (Instr.lookup 58 (.map (some m)) (.int .i64 (x : Int)) false).run Try.prog V = .ok (.slice (some ⟨blk x, 0, none⟩) L.length L.length) V := by
  obtain ⟨v, ps, hrun, hv⟩ := h.map.lookup intKeyed Try.underlying58 (zeroRows V) (zd := .nil) (zp := []) rfl (kx_key hx)
  rw [(h.more x L hL).1] at hv
  rw [slR_inv hv] at hrun
  exact hrun
theorem div_pow_lt {t W n : Nat} (ht : t < 2 ^ n) (hn : W < n) : t / 2 ^ W < 2 ^ (n - W) := by
  rw [Nat.div_lt_iff_lt_mul (Nat.two_pow_pos W), ← Nat.pow_add]
  rwa [show n - W + W = n by omega]
set_option maxRecDepth 100000 in
set_option maxHeartbeats 400000 in
theorem add_old (tb g m W t s n M cnt base : Nat) (q : QS) (blk : Nat → Nat) (D : DataW Unit) (L : List R3) (w : World) (h : LT w tb g m W q blk D cnt base) (hW : W ≤ 15) (hn15 : n ≤ 15) (ht : t < 2 ^ n) (hn : W < n)
    (hr : q.rows[t % 2 ^ W]? = some (0, M, true)) (hL : q.more (t % 2 ^ W) = some L) (hLl : L.length ≤ 32768) :
    Calls Try.prog 28 #[.pointer (some ⟨tb, 0, none⟩), .int .i64 (t : Int), .agg #[.int .i64 (s : Int), .int .i64 (n : Int), .bool false]] w
      fun e w' => e = .returned (.tuple #[]) ∧ AddPost w w' tb g m W q D cnt base t s n := by
  have hne0 : ¬ q.rows.getD (t % 2 ^ W) r0 = r0 := by rw [getD_r0 hr]; intro e; exact absurd (congrArg (fun r : R3 => r.2.2) e) (by simp [r0])
  have HADD : Hid (q.add W t s n = ⟨q.rows, fun y => if y = t % 2 ^ W then some (spreadL L (t / 2 ^ W) (n - W) (s, n, false)) else q.more y⟩ ∧ moreT W q t n = 0) := by
    constructor
    · unfold QS.add
      rw [if_neg (by omega), if_neg hne0]
      congr 1
      funext y
      split
      · rename_i e; rw [e, hL]; rfl
      · rfl
    · unfold moreT
      rw [if_neg (by omega), if_neg hne0]
  have hp : (2 : Nat) ^ W ≤ 32768 := Nat.le_trans (Nat.pow_le_pow_right (by decide) hW) (by decide)
  have hp0 := Nat.two_pow_pos W
  have hpn : (2 : Nat) ^ n ≤ 32768 := Nat.le_trans (Nat.pow_le_pow_right (by decide) hn15) (by decide)
  have hyl := div_pow_lt ht hn
  have hand := i64_and_low (t := t) (W := W) (by omega) hW
  obtain ⟨W1, hW1⟩ : ∃ W1, w.alloc (.cells #[.int .i64 (s : Int), .int .i64 (n : Int), .bool false] 35) = W1 := ⟨_, rfl⟩
  have HL1 : Hid (LT W1 tb g m W q blk D cnt base) := by show LT _ _ _ _ _ _ _ _ _ _; rw [← hW1]; exact h.alloc _
  have HM1 : Hid (Mod (tbS base) w W1) := by show Mod _ _ _; rw [← hW1]; exact (Mod.refl _ w).alloc _
  have hx := heap_alloc_new w (.cells #[.int .i64 (s : Int), .int .i64 (n : Int), .bool false] 35)
  rw [hW1] at hx
  have HX1 := Lib.hid hx
  have HTB : Hid (W1.heap[tb]? = some (.cells #[.int .i64 (W : Int), .slice (some ⟨g, 0, none⟩) (2 ^ W) (2 ^ W), .map (some m)] 60)) := HL1.out.tab
  have HNE := Lib.hid h.ne
  have hx9 : t % 2 ^ W < 9223372036854775808 := by have := Nat.mod_lt t hp0; omega
  have HLK := Lib.hid (fun (V : World) q' blk' D' cnt' L' (hV : LT V tb g m W q' blk' D' cnt' base) => hV.look (x := t % 2 ^ W) (L := L') hx9)
  have HMO := Lib.hid (h.more _ _ hL)
  have HBP : Hid (w.heap.size ≠ blk (t % 2 ^ W)) := by have := rb_lt HMO.out.2.1; show _ ≠ _; omega
  have HSP : Hid (Calls Try.prog 43 #[.slice (some ⟨blk (t % 2 ^ W), 0, none⟩) L.length L.length, .int .i64 ((t / 2 ^ W : Nat) : Int), .int .i64 ((n - W : Nat) : Int), .agg #[.int .i64 (s : Int), .int .i64 (n : Int), .bool false]] W1.drew.drew
      fun e w' => e = .returned (.tuple #[]) ∧ RB w' (blk (t % 2 ^ W)) (spreadL L (t / 2 ^ W) (n - W) (s, n, false)) ∧ Mod (oneB (blk (t % 2 ^ W))) W1.drew.drew w') :=
    spread_any (blk (t % 2 ^ W)) L.length (n - W) (t / 2 ^ W) L (s, n, false) W1.drew.drew rfl hLl (by omega) hyl (HL1.out.more _ _ hL).2.1
  have HR1 := Lib.hid (rb_cells HL1.out.rows hr)
  have HLL := Lib.hid hL
  have hxN := Nat.mod_lt t hp0
  have hnW : ¬ (n : Int) ≤ (W : Int) := by omega
  have ht15 : t < 32768 := by omega
  have hshr : (t : Int) / 2 ^ W = ((t / 2 ^ W : Nat) : Int) := by simp
  have hdl : t / 2 ^ W ≤ t := Nat.div_le_self _ _
  have hsub : IntKind.i64.wrap ((n : Int) - (W : Int)) = ((n - W : Nat) : Int) := by rw [IntWalk.i64_in _ (by omega)]; omega
  have hsubN : IntKind.i64.wrap (((2 ^ W : Nat) : Int) - 1) = ((2 ^ W - 1 : Nat) : Int) := by rw [IntWalk.i64_in _ (by omega)]; omega
  obtain ⟨x, hxx⟩ : ∃ x, t % 2 ^ W = x := ⟨_, rfl⟩
  obtain ⟨y, hyy⟩ : ∃ y, t / 2 ^ W = y := ⟨_, rfl⟩
  obtain ⟨N1, hN1⟩ : ∃ N1, 2 ^ W - 1 = N1 := ⟨_, rfl⟩
  obtain ⟨k, hk⟩ : ∃ k, n - W = k := ⟨_, rfl⟩
  rw [hxx] at hand HLK HMO HBP HSP HR1 HLL hxN HADD hx9
  rw [hyy] at HSP hshr hdl HADD
  rw [hN1] at hand hsubN
  rw [hk] at HSP hsub HADD
  obtain ⟨N, hN⟩ : ∃ N, 2 ^ W = N := ⟨_, rfl⟩
  rw [hN] at HTB hsubN hxN hp
  obtain ⟨x0, x1, x2, t0, t1, t2⟩ := (seen_of HX1.out HTB.out).all
  obtain ⟨y0, y1, y2⟩ := HR1.out
  dsimp only at y0 y1 y2
  have hk15 : k ≤ 15 := by omega
  clear h hx ht hr hL hne0 hyl hpn hp0 hxx hyy hN1 hk hN hLl hn
  go_enter Try.func28, Try.ntmps28
  go_upto_region 1 with (fail)
  go_region
  go_upto_region 7 with (fail)
  have S5 := (seen_of (V := W1.drew) HX1.out HTB.out).all
  have K6 := HLK.out W1.drew.drew q blk D cnt L (HL1.out.drewN 2) HLL.out
  clear x0 x1 x2 t0 t1 t2 y0 y1 y2
  go_region_held3 (fun V => V.cell? ⟨w.heap.size, 0, none⟩ = some (.int .i64 (s : Int)) ∧ V.cell? ⟨w.heap.size, 1, none⟩ = some (.int .i64 (n : Int)) ∧ V.cell? ⟨w.heap.size, 2, none⟩ = some (.bool false) ∧ V.cell? ⟨tb, 0, none⟩ = some (.int .i64 (W : Int)) ∧ V.cell? ⟨tb, 1, none⟩ = some (.slice (some ⟨g, 0, none⟩) N N) ∧ V.cell? ⟨tb, 2, none⟩ = some (.map (some m))) (first | exact S5 | exact S6)
    ((first
    | (go_at_call 43; refine HSP.out.mono ?_; rintro e w2 ⟨rfl, hr2, hm2⟩; have HR2 := Lib.hid hr2; have HM2 := Lib.hid hm2; have S6 := (seen_of (V := w2) (hm2.keep HX1.out HBP.out) (hm2.keep HTB.out (fun e => HMO.out.2.2.2.2.1 e.symm))).all; clear hr2 hm2)))
  go_wp2
  go_end0
  refine ⟨rfl, blk, D, ?_, by rw [HADD.out.2]; rfl, ?_⟩
  · rw [HADD.out.1]
    exact ((HL1.out.drewN 2).more_ HLL.out HM2.out (spreadL_len _ _ _ _) HR2.out).more1
  · exact (HM1.out.drewN 2).then_ (HM2.out.mono fun k' hk' => by cases hk'; exact HMO.out.2.2.1)
end Go.Proofs.Ytnobeipabfdkjaa
