/- Layer 34: a symbol is taken by a table. -/
import Derived.Test.YtnobeipabfdkjaaQkTkP
import Derived.Test.YtnobeipabfdkjaaQkGet
import Derived.Test.YtnobeipabfdkjaaBitsRe
namespace Go.Proofs.Ytnobeipabfdkjaa
open Go.RowKit Go.Maps BitsP

theorem drewT (w : World) (m : Nat) : Below w.heap.size w (w.drewN m) := ⟨rfl, rfl, rfl, Nat.le_refl _, fun _ _ => rfl⟩
theorem rb_one {w : World} {g : Nat} {r : R3} (h : RB w g [r]) : w.cell? ⟨g, 0, none⟩ = some (.int .i64 (r.1 : Int)) ∧ w.cell? ⟨g, 1, none⟩ = some (.int .i64 (r.2.1 : Int)) ∧ w.cell? ⟨g, 2, none⟩ = some (.bool r.2.2) := rb_cells (x := 0) h rfl
theorem rb_put {w : World} {g : Nat} {r : R3} (h : RB w g [r]) (r' : R3) : RB (((w.setCell ⟨g, 0, none⟩ (.int .i64 (r'.1 : Int))).setCell ⟨g, 1, none⟩ (.int .i64 (r'.2.1 : Int))).setCell ⟨g, 2, none⟩ (.bool r'.2.2)) g [r'] := rb_set (x := 0) h r'
/-- What the row says in the end: a symbol that is hit, or none. -/
def LastR (zs : List Int) (U : List Bool) (rf : R3) : Prop := (∃ s n v k, rf = (s, n, false) ∧ Sym zs s n v k ∧ HitZ U n v) ∨ (rf = r0 ∧ NoHitZ zs U)
set_option maxRecDepth 100000 in
set_option maxHeartbeats 2000000 in
theorem qtake_any (tb g m W cnt base r base' : Nat) (blk : Nat → Nat) (D : DataW Unit) (zs : List Int) (S : Nat → Prop) (bs : List UInt8) (p : Nat) (w : World) (hr : caR zs = true) (h : LT w tb g m W (qF W (allC zs)) blk D cnt base) (hW1 : 1 ≤ W) (hW : W ≤ 15) (hrd : RdS w r base' S bs p) (hbl : bs.length ≤ 1000000) :
    Calls Try.prog 22 #[.pointer (some ⟨tb, 0, none⟩), .pointer (some ⟨r, 0, none⟩)] w
      fun e w' => ∃ (on : Nat) (s er : Int), e = .returned (.tuple #[.int .i64 s, .int .i64 er]) ∧ (∀ mx : Nat, isMax zs (mx : Int) → TakeR zs mx ((unpack bs).drop p) s er on) ∧ RdS w' r base' S bs (p + on) ∧ Mod (oneB r) w w' := by
  obtain ⟨U, hU⟩ : ∃ U, (unpack bs).drop p = U := ⟨_, rfl⟩
  have hUl : U.length = 8 * bs.length - p := by rw [← hU, List.length_drop, unpack_length]
  have HLT : Hid (∀ V, Below w.heap.size w V → LT V tb g m W (qF W (allC zs)) blk D cnt base) := fun V hV => h.below hV
  have HRD : Hid (∀ V, Below w.heap.size w V → RdS V r base' S bs p) := fun V hV => hrd.keep (Mod.of_below hV) (fun _ _ h => h)
  have HPK : Hid (∀ (V : World) (q : Nat), q ≤ 15 → Below w.heap.size w V → Calls Try.prog 36 #[.pointer (some ⟨r, 0, none⟩), .int .i64 (q : Int)] V fun e w' => e = .returned (.int .u32 (num (U.take q) : Nat)) ∧ ∃ n, w' = V.drewN n) := fun V q hq hV => by
    have := rpeek_any r base' S bs p (q : Int) V (HRD.out V hV) (by omega) (by omega) (by omega)
    rwa [hU, cnt_nat (by omega)] at this
  have HSK : Hid (∀ (V : World) (n : Nat), n ≤ 15 → Below w.heap.size w V → Calls Try.prog 37 #[.pointer (some ⟨r, 0, none⟩), .int .i64 (n : Int)] V fun e w' => e = .returned (.bool (fits p n bs.length)) ∧ RdS w' r base' S bs (onTo p n bs.length) ∧ Mod (oneB r) V w') := fun V n hn hV => by
    have := rskip_any r base' S bs p (n : Int) V (HRD.out V hV) (by omega) (by omega) (by omega)
    rwa [cnt_nat (by omega)] at this
  obtain ⟨rr, rf, G, hrow, hG, hlast⟩ : ∃ (rr rf : R3) (G : Nat), (qF W (allC zs)).rows[num (U.take W)]? = some rr ∧ ((G = 0 ∧ rr = rf) ∨ (G = 1 ∧ ∃ n L, rr = (0, n, true) ∧ W < n ∧ n ≤ 15 ∧ (qF W (allC zs)).more (num (U.take W)) = some L ∧ L.length = 2 ^ (n - W) ∧ num (U.take n) / 2 ^ W < L.length ∧ L[num (U.take n) / 2 ^ W]? = some rf)) ∧ LastR zs U rf := by
    rcases row_says hr hW U with ⟨s, n, v, k, h1, h2, h3⟩ | ⟨h1, h2⟩ | ⟨n, L, h1, h2, h3, h4, h5, h6, h7⟩
    · exact ⟨_, _, 0, h1, .inl ⟨rfl, rfl⟩, .inl ⟨s, n, v, k, rfl, h2, h3⟩⟩
    · exact ⟨_, _, 0, h1, .inl ⟨rfl, rfl⟩, .inr ⟨rfl, h2⟩⟩
    · rcases h7 with ⟨s, n', v, k, h8, h9, h10⟩ | ⟨h8, h9⟩
      · exact ⟨_, _, 1, h1, .inr ⟨rfl, n, L, rfl, h2, h3, h4, h5, h6, h8⟩, .inl ⟨s, n', v, k, rfl, h9, h10⟩⟩
      · exact ⟨_, _, 1, h1, .inr ⟨rfl, n, L, rfl, h2, h3, h4, h5, h6, h8⟩, .inr ⟨rfl, h9⟩⟩
  have hxW : num (U.take W) < 2 ^ W := by
    have := (List.getElem?_eq_some_iff.1 hrow).1
    rwa [h.len] at this
  have hp : (2 : Nat) ^ W ≤ 32768 := Nat.le_trans (Nat.pow_le_pow_right (by decide) hW) (by decide)
  obtain ⟨x, hx⟩ : ∃ x, num (U.take W) = x := ⟨_, rfl⟩
  have HPW := Lib.hid (fun V => HPK.out V W hW)
  rw [hx] at hrow hG hxW HPW
  have HRW : Hid (∀ V, Below w.heap.size w V → Calls Try.prog 16 #[.pointer (some ⟨tb, 0, none⟩), .int .i64 (x : Int)] V fun e w' => e = .returned (.agg #[.int .i64 (rr.1 : Int), .int .i64 (rr.2.1 : Int), .bool rr.2.2]) ∧ Below V.heap.size V w') := fun V hV =>
    qrow_in tb g m W cnt base x _ blk D rr V (HLT.out V hV) hW hrow
  have HT0 : Hid (∀ V, Below w.heap.size w V → V.cell? ⟨tb, 0, none⟩ = some (.int .i64 (W : Int))) := fun V hV => cell_of_row V tb 0 _ _ _ (HLT.out V hV).tab
  have HR := Lib.hid hr
  have HG := Lib.hid hG
  have HLA := Lib.hid hlast
  have HROW := Lib.hid hrow
  have HUL := Lib.hid hUl
  have hx32 : x < 32768 := by omega
  have HU := Lib.hid hU
  have HX := Lib.hid hx
  have t0 := HT0.out w (Below.refl _ _)
  have HRL : Hid (r < w.heap.size) := by
    obtain ⟨_, _, hb, _⟩ := hrd
    exact (Array.getElem?_eq_some_iff.1 hb).1
  clear h hrd hr hU hUl hrow hG hlast hxW hp hx
  obtain ⟨a, b, c⟩ := rr
  go_enter Try.func22, Try.ntmps22
  go_wp2
  go_step3
  go_wp2_with (first
    | (go_at_call 36; refine (HPW.out _ (Below.refl _ _)).mono ?_; rintro e w1 ⟨rfl, m1, rfl⟩)
    | (go_at_call 16; refine (HRW.out _ (drewT _ _)).mono ?_; rintro e w2 ⟨rfl, hb2⟩; have HB2 : Hid (Below w.heap.size w w2) := (drewT _ _).trans hb2; clear hb2))
  obtain ⟨W3, hW3⟩ : ∃ W3, w2.alloc (.cells #[.int .i64 (a : Int), .int .i64 (b : Int), .bool c] 35) = W3 := ⟨_, rfl⟩
  have HX3 : Hid (RB W3 w2.heap.size [(a, b, c)]) := by
    show RB _ _ _
    rw [← hW3]
    exact heap_alloc_new w2 _
  have HB3 : Hid (Below w.heap.size w W3) := by show Below _ _ _; rw [← hW3]; exact HB2.out.alloc HB2.out.size _
  have HPB : Hid (w.heap.size ≤ w2.heap.size) := HB2.out.size
  rw [hW3]
  obtain ⟨pb, hpb⟩ : ∃ pb, w2.heap.size = pb := ⟨_, rfl⟩
  rw [hpb] at HX3 HPB ⊢
  have HNE : Hid (pb ≠ r) := by have := HRL.out; have := HPB.out; show _ ≠ _; omega
  clear hW3 hpb HB2
  go_step3
  go_wp2
  go_loopg [8, 9] G (fun gk s8 s9 wr => s8 = .int .i64 0 ∧ s9 = .int .i64 0 ∧ Below w.heap.size w wr ∧ ∃ q, RB wr pb [q] ∧ ((gk = 0 ∧ q = rf) ∨ (gk = 1 ∧ q = (a, b, c) ∧ G = 1)))
  case atStart => exact ⟨rfl, rfl, HB3.out, (a, b, c), HX3.out, HG.out.elim (fun h => .inl h) (fun h => .inr ⟨h.1, rfl, h.1⟩)⟩
  case round =>
    obtain ⟨rfl, rfl, hb4, q, hx4, hq⟩ := hrel
    have HB4 := Lib.hid hb4
    have HX4 := Lib.hid hx4
    clear hb4 hx4
    rcases hq with ⟨rfl, rfl⟩ | ⟨rfl, rfl, hG1⟩
    · obtain ⟨x0, x1, x2⟩ := rb_one HX4.out
      rcases HLA.out with ⟨s, n, v, k, rfl, hy, hh⟩ | ⟨rfl, hno⟩
      · have h1 := hy.one
        have h15 := hy.few
        have HY := Lib.hid hy
        have HH := Lib.hid hh
        have HSN := Lib.hid (HSK.out wr n h15 HB4.out)
        have u1 : (n == 0) = false := by simp; omega
        have u1' : ((n : Int) == 0) = false := by simp; omega
        clear hy hh
        dsimp only at x0 x1 x2
        by_cases hf : p + n ≤ 8 * bs.length
        · have hfit := fits_yes hf
          rw [hfit.1, hfit.2] at HSN
          have HF : Hid (p + n ≤ 8 * bs.length) := hf
          clear hf hfit
          go_wp2_with (go_at_call 37; refine HSN.out.mono ?_; rintro e w5 ⟨rfl, hrd5, hm5⟩; have HRD5 := Lib.hid hrd5; have HM5 := Lib.hid hm5; have hx5 := rb_one (show RB w5 pb [(s, n, false)] from hm5.keep HX4.out HNE.out); obtain ⟨z0, z1, z2⟩ := hx5; dsimp only at z0 z1 z2; clear hrd5 hm5)
          rw [Exit.noGoto_ret]
          go_ret2
          rw [HU.out]
          exact ⟨n, (s : Int), 0, rfl, fun mx _ => takeR_hit HY.out HH.out (by have := HF.out; rw [HUL.out]; omega), HRD5.out, ((Mod.of_below HB4.out).mono fun _ h => h.elim).then_ HM5.out⟩
        · have hfit := fits_no hf
          rw [hfit.1, hfit.2] at HSN
          have HF : Hid (¬ p + n ≤ 8 * bs.length ∧ 1 ≤ n) := ⟨hf, h1⟩
          clear hf hfit
          go_wp2_with (go_at_call 37; refine HSN.out.mono ?_; rintro e w5 ⟨rfl, hrd5, hm5⟩; have HRD5 := Lib.hid hrd5; have HM5 := Lib.hid hm5; have hx5 := rb_one (show RB w5 pb [(s, n, false)] from hm5.keep HX4.out HNE.out); obtain ⟨z0, z1, z2⟩ := hx5; dsimp only at z0 z1 z2; clear hrd5 hm5)
          rw [Exit.noGoto_ret]
          go_ret2
          rw [HU.out]
          exact ⟨0, 0, 2, rfl, fun mx hm => takeR_end hm HY.out HH.out (by have := HF.out; rw [HUL.out]; omega), HRD5.out, ((Mod.of_below HB4.out).mono fun _ h => h.elim).then_ HM5.out⟩
      · have HNO := Lib.hid hno
        clear hno
        dsimp only [r0] at x0 x1 x2
        go_wp2
        rw [Exit.noGoto_ret]
        go_ret2
        rw [HU.out]
        exact ⟨0, 0, 13, rfl, fun mx hm => takeR_no HR.out hm HNO.out, HRD.out _ HB4.out, (Mod.of_below HB4.out).mono fun _ h => h.elim⟩
    · rcases HG.out with ⟨h0, _⟩ | ⟨_, n, L, he, hWn, hn15, hmo, hLl, hyl, hlast⟩
      · omega
      · injection he with ha hbc
        injection hbc with hb hc
        subst ha hc
        obtain rfl : n = b := hb.symm
        obtain ⟨x0, x1, x2⟩ := rb_one HX4.out
        dsimp only at x0 x1 x2
        have HPN := Lib.hid (fun V => HPK.out V n hn15)
        have hPl := num_from_lt U 0 n
        rw [List.drop_zero, p2_pow] at hPl
        have hp15 : (2 : Nat) ^ n ≤ 32768 := Nat.le_trans (Nat.pow_le_pow_right (by decide) hn15) (by decide)
        have hk15 : (2 : Nat) ^ (n - W) ≤ 32768 := Nat.le_trans (Nat.pow_le_pow_right (by decide) (show n - W ≤ 15 by omega)) (by decide)
        rw [← hLl] at hk15
        have HLK : Hid (∀ V, Below w.heap.size w V → (Instr.lookup 58 (.map (some m)) (.int .i64 (x : Int)) false).run Try.prog V = .ok (.slice (some ⟨blk x, 0, none⟩) L.length L.length) V) := fun V hV => (HLT.out V hV).look (by omega) hmo
        have HMO : Hid (∀ V, Below w.heap.size w V → RB V (blk x) L) := fun V hV => ((HLT.out V hV).more _ _ hmo).2.1
        obtain ⟨P, hP⟩ : ∃ P, num (U.take n) = P := ⟨_, rfl⟩
        rw [hP] at hyl hlast HPN hPl
        have hshr : (P : Int) / 2 ^ W = ((P / 2 ^ W : Nat) : Int) := by simp
        have hyP : P / 2 ^ W ≤ P := Nat.div_le_self _ _
        obtain ⟨y, hy⟩ : ∃ y, P / 2 ^ W = y := ⟨_, rfl⟩
        rw [hy] at hyl hlast hshr hyP
        obtain ⟨LL, hLL⟩ : ∃ LL, L.length = LL := ⟨_, rfl⟩
        rw [hLL] at hyl hk15 HLK
        have HBD : Hid (∀ V m, Below w.heap.size w V → Below w.heap.size w (V.drewN m)) := fun V m h => h.trans ((drewT V m).mono h.size)
        have HB5 : Hid (Below w.heap.size w wr.drew) := HB4.out.drew
        have HCEL : Hid (∀ V, Below w.heap.size w V → V.cell? ⟨tb, 0, none⟩ = some (.int .i64 (W : Int)) ∧ V.cell? ⟨tb, 2, none⟩ = some (.map (some m)) ∧ V.cell? ⟨blk x, y * 3, none⟩ = some (.int .i64 (rf.1 : Int)) ∧ V.cell? ⟨blk x, y * 3 + 1, none⟩ = some (.int .i64 (rf.2.1 : Int)) ∧ V.cell? ⟨blk x, y * 3 + 2, none⟩ = some (.bool rf.2.2)) := fun V hV =>
          ⟨cell_of_row V tb 0 _ _ _ (HLT.out V hV).tab, cell_of_row V tb 2 _ _ _ (HLT.out V hV).tab, rb_cells (HMO.out V hV) hlast⟩
        have hW15 : W ≤ 15 := hW
        have hP32 : P < 32768 := by omega
        clear hPl hp15 hP hy hLL hLl hlast hmo HG hG1 t0
        go_upto_region 8 with fail
        obtain ⟨t0, t2, y0, y1, y2⟩ := HCEL.out wr HB4.out
        have K1 := HLK.out wr.drew HB5.out
        go_region_law (first | (go_simp; go_at_call 36; refine (HPN.out wr.drew HB5.out).mono ?_; rintro e w7 ⟨rfl, m7, rfl⟩; obtain ⟨a0, a2, b0, b1, b2⟩ := HCEL.out (wr.drewN (1 + m7)) (HBD.out _ _ HB4.out); have K7 := HLK.out (wr.drewN (1 + m7)) (HBD.out _ _ HB4.out); have HX7 : Hid (RB (wr.drewN (1 + m7)) pb [(0, n, true)]) := HX4.out; obtain ⟨p0, p1, p2⟩ := rb_one HX7.out; have f0 := rb_free HX7.out 0; have f1 := rb_free HX7.out 1; have f2 := rb_free HX7.out 2))
        all_goals
          go_wp2
          go_roundg 0
          case measure => omega
          case rel =>
            refine ⟨rfl, rfl, ?_, rf, ?_, .inl ⟨rfl, rfl⟩⟩
            · exact (((HBD.out wr (1 + m7) HB4.out).setCell (p := ⟨pb, 0, none⟩) HPB.out _).setCell (p := ⟨pb, 1, none⟩) HPB.out _).setCell (p := ⟨pb, 2, none⟩) HPB.out _
            · exact rb_put HX7.out rf
end Go.Proofs.Ytnobeipabfdkjaa
