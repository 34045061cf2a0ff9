/- Layer 4: the law DiskSynced. -/
import Derived.Test.YtbchageboghilaaDiskSyn
namespace Go.Proofs.Ytbchageboghilaa
open Go.RowKit
attribute [local go_sem ↓] Go.wp_at_zero Go.wp_at_succ

theorem dsize_z (g base : Nat) (S : Nat → Prop) (now safe : List UInt8) (waits : List (Nat × List UInt8)) (z : Nat) (w : World) (h : DkS w g base S now safe waits) (hm : now.length ≤ 2097152) (hz : now.length = 512 * z) :
    Calls Try.prog 12 #[.pointer (some ⟨g, 0, none⟩)] w fun e w' => e = .returned (.int .i64 (z : Int)) ∧ w = w' := by
  have := dsize_any g base S now safe waits w h hm
  rwa [show now.length / 512 = z by omega] at this
theorem dread_z (g base : Nat) (S : Nat → Prop) (now safe : List UInt8) (waits : List (Nat × List UInt8)) (z : Nat) (w : World) (h : DkS w g base S now safe waits) (hm : now.length ≤ 2097152) (hz : now.length = 512 * z) :
    Calls Try.prog 11 #[.pointer (some ⟨g, 0, none⟩), .int .i64 0, .int .i64 (512 * (z : Int))] w fun e w' => ∃ A c, e = .returned (.tuple #[.slice A (512 * z) c, .int .i64 0]) ∧ OwnB w' w.heap.size 5 (.slice A (512 * z) c) (512 * z) now ∧ Below w.heap.size w w' := by
  have := dread_any g base S now safe waits 0 (512 * z) w h hm (by simp [okW]; omega)
  rw [readV_all now (512 * z) hz] at this
  have e : ((512 * z : Nat) : Int) = 512 * (z : Int) := by omega
  rw [e] at this
  exact this

/-- Bytes that were read, in a block of their own. -/
def Txt (w : World) (S : Nat → Prop) (A : Option Addr) (bs : List UInt8) : Prop := bs = [] ∨ Kept w S A (byteCells bs)
theorem Txt.of_own {w W : World} {S : Nat → Prop} {A : Option Addr} {n c : Nat} {bs : List UInt8} (h : OwnB w W.heap.size 5 (.slice A n c) n bs) (hS : ∀ k, S k → k < W.heap.size) (hn : bs.length = n) : Txt w S A bs := by
  rcases own_A h with ⟨_, h0, _⟩ | ⟨b, rfl⟩
  · exact .inl (List.eq_nil_of_length_eq_zero (by omega))
  · refine .inr (kept_of_own h (fun hb => ?_) 0 bs (by simp))
    have h1 := hS b hb
    have h2 := (h.lt b rfl).1
    omega
theorem Txt.step {w w' : World} {S S' T : Nat → Prop} {A : Option Addr} {bs : List UInt8} (h : Txt w S A bs) (hm : Mod T w w') (hT : ∀ k, T k → S k) (hS : ∀ k, S' k → S k ∨ w.heap.size ≤ k) : Txt w' S' A bs :=
  h.elim .inl (fun h => .inr (h.step hm hT hS))
theorem Txt.str {w : World} {S : Nat → Prop} {A : Option Addr} {bs : List UInt8} {n c : Nat} (h : Txt w S A bs) (hn : bs.length = n) : (convert 25 9 (.slice A n c)).run Try.prog w = .ok (.string ⟨bs.toArray⟩) w := by
  refine run_string_of (B := w.heap.size) 25 9 5 Try.underlying25 Try.underlying5 Try.underlying9 ?_ hn
  rcases h with rfl | h
  · exact Cells.nil _ _ _
  · exact h.cells

set_option maxRecDepth 100000 in
set_option maxHeartbeats 4000000 in
theorem synced_walk (A : Option Addr) (l c : Nat) (rs : List DOp) (x : DOp) (w : World) (hl : rs.length = l) (hlm : l ≤ 9223372036854775807) (hg : ∀ r ∈ rs, DOp.Good w r) (hs : ∀ r ∈ rs, (r.code).length = 5) (hc : Cells w w.heap.size A (rs.map DOp.code).flatten) (hx : DOp.Good w x) :
    Calls Try.prog 4 #[.slice A l c, .agg #[.int .i64 x.kind, .int .i64 x.at_, .slice x.B x.bl x.bc, .slice x.K x.kl x.kc, .int .u8 (x.fill : Int)]] w fun e w' => e = .returned (.bool true) ∧ Below w.heap.size w w' := by
  have HLV := Lib.hid (fun W => lives4_any W)
  have HG := Lib.hid hg
  have HS := Lib.hid hs
  have HX := Lib.hid hx
  have HL := Lib.hid hl
  have HC : Hid (Cells w w.heap.size A (rs.map DOp.code).flatten) := hc
  have HN1 := Lib.hid (fun W (hW : Below w.heap.size w W) => near_any A l c rs w W w.heap.size hl hlm hg hs (hc.below hW (Nat.le_refl _)))
  have hkm := hx.km
  clear hg hs hx hl hc
  go_enter Try.func4, Try.ntmps4
  have HN2 := Lib.hid (near_any (some ⟨w.heap.size + 1, 0, none⟩) 1 1 [x] w ((w.alloc (.cells #[.int .i64 x.kind, .int .i64 x.at_, .slice x.B x.bl x.bc, .slice x.K x.kl x.kc, .int .u8 (x.fill : Int)] 38)).alloc (.cells #[.int .i64 x.kind, .int .i64 x.at_, .slice x.B x.bl x.bc, .slice x.K x.kl x.kc, .int .u8 (x.fill : Int)] 38)) (w.heap.size + 2) rfl (by omega) (fun r hr => by rw [List.mem_singleton.1 hr]; exact HX.out) (fun r hr => by rw [List.mem_singleton.1 hr]; rfl) (fun _ => ⟨w.heap.size + 1, 0, rfl, by omega, fun j u hu => by
    have h := heap_alloc_new (w.alloc (.cells #[.int .i64 x.kind, .int .i64 x.at_, .slice x.B x.bl x.bc, .slice x.K x.kl x.kc, .int .u8 (x.fill : Int)] 38)) (.cells #[.int .i64 x.kind, .int .i64 x.at_, .slice x.B x.bl x.bc, .slice x.K x.kl x.kc, .int .u8 (x.fill : Int)] 38)
    rw [World.size_alloc] at h
    rw [cell_of_row _ _ _ _ _ _ h]
    simpa [DOp.code] using hu⟩))
  go_wp2_with (first
    | (go_at_call 6; refine (HN1.out _ ((Below.refl _ w).alloc (Nat.le_refl _) _)).mono ?_; clear HN1; rintro e w' ⟨b1, rfl, rfl, hb1⟩; have HR1 := Lib.hid hb1; clear hb1; cases b1)
    | (go_at_call 6; refine HN2.out.mono ?_; clear HN2; rintro e w' ⟨b2, rfl, rfl, hb2⟩; have HR2 := Lib.hid hb2; clear hb2; cases b2)
    | (go_at_call 7; refine (HLV.out _).mono ?_; rintro e w9 ⟨rfl, hb9⟩; have HB9 := Lib.hid hb9; clear hb9))
  all_goals first
    | (go_ret; exact ⟨rfl, (show Below w.heap.size w _ by repeat (first | exact Below.refl _ _ | refine Below.drew ?_ | refine Below.alloc ?_ (by simp <;> omega) _)).trans (HB9.out.mono (by simp <;> omega))⟩)
    | skip
  obtain ⟨hl40, h3⟩ := HR1.out (by trivial)
  obtain ⟨_, hx3⟩ := HR2.out (by trivial)
  have hx3 := hx3 x (List.mem_singleton.2 rfl)
  have hBN := both_new ((w.alloc (.cells #[.int .i64 x.kind, .int .i64 x.at_, .slice x.B x.bl x.bc, .slice x.K x.kl x.kc, .int .u8 (x.fill : Int)] 38)).alloc (.cells #[.int .i64 x.kind, .int .i64 x.at_, .slice x.B x.bl x.bc, .slice x.K x.kl x.kc, .int .u8 (x.fill : Int)] 38))
  rw [show ((w.alloc (.cells #[.int .i64 x.kind, .int .i64 x.at_, .slice x.B x.bl x.bc, .slice x.K x.kl x.kc, .int .u8 (x.fill : Int)] 38)).alloc (.cells #[.int .i64 x.kind, .int .i64 x.at_, .slice x.B x.bl x.bc, .slice x.K x.kl x.kc, .int .u8 (x.fill : Int)] 38)).heap.size = w.heap.size + 1 + 1 by simp] at hBN
  have hrow : ((((w.alloc (.cells #[.int .i64 x.kind, .int .i64 x.at_, .slice x.B x.bl x.bc, .slice x.K x.kl x.kc, .int .u8 (x.fill : Int)] 38)).alloc (.cells #[.int .i64 x.kind, .int .i64 x.at_, .slice x.B x.bl x.bc, .slice x.K x.kl x.kc, .int .u8 (x.fill : Int)] 38)).alloc (.cells #[.slice none 0 0, .slice none 0 0, .slice none 0 0] 28)).alloc (.cells #[.slice none 0 0, .slice none 0 0, .slice none 0 0, .slice none 0 0] 33)).heap[w.heap.size]? = some (.cells #[.int .i64 x.kind, .int .i64 x.at_, .slice x.B x.bl x.bc, .slice x.K x.kl x.kc, .int .u8 (x.fill : Int)] 38) := by
    rw [Below.heap_alloc _ _ _ (by simp; omega), Below.heap_alloc _ _ _ (by simp; omega), Below.heap_alloc _ _ _ (by simp)]
    exact heap_alloc_new w _
  have hbw : Below w.heap.size w ((((w.alloc (.cells #[.int .i64 x.kind, .int .i64 x.at_, .slice x.B x.bl x.bc, .slice x.K x.kl x.kc, .int .u8 (x.fill : Int)] 38)).alloc (.cells #[.int .i64 x.kind, .int .i64 x.at_, .slice x.B x.bl x.bc, .slice x.K x.kl x.kc, .int .u8 (x.fill : Int)] 38)).alloc (.cells #[.slice none 0 0, .slice none 0 0, .slice none 0 0] 28)).alloc (.cells #[.slice none 0 0, .slice none 0 0, .slice none 0 0, .slice none 0 0] 33)) := by repeat (first | exact Below.refl _ _ | refine Below.alloc ?_ (by simp <;> omega) _)
  have hsz3 : w.heap.size + 1 + 1 ≤ ((((w.alloc (.cells #[.int .i64 x.kind, .int .i64 x.at_, .slice x.B x.bl x.bc, .slice x.K x.kl x.kc, .int .u8 (x.fill : Int)] 38)).alloc (.cells #[.int .i64 x.kind, .int .i64 x.at_, .slice x.B x.bl x.bc, .slice x.K x.kl x.kc, .int .u8 (x.fill : Int)] 38)).alloc (.cells #[.slice none 0 0, .slice none 0 0, .slice none 0 0] 28)).alloc (.cells #[.slice none 0 0, .slice none 0 0, .slice none 0 0, .slice none 0 0] 33)).heap.size := by simp
  obtain ⟨n, hn⟩ : ∃ n, n = w.heap.size + 1 + 1 := ⟨_, rfl⟩
  rw [← hn] at hBN hsz3 ⊢
  generalize ((((w.alloc (.cells #[.int .i64 x.kind, .int .i64 x.at_, .slice x.B x.bl x.bc, .slice x.K x.kl x.kc, .int .u8 (x.fill : Int)] 38)).alloc (.cells #[.int .i64 x.kind, .int .i64 x.at_, .slice x.B x.bl x.bc, .slice x.K x.kl x.kc, .int .u8 (x.fill : Int)] 38)).alloc (.cells #[.slice none 0 0, .slice none 0 0, .slice none 0 0] 28)).alloc (.cells #[.slice none 0 0, .slice none 0 0, .slice none 0 0, .slice none 0 0] 33)) = w3 at *
  have HBN := Lib.hid hBN
  have HROW := Lib.hid hrow
  have HBW := Lib.hid hbw
  have HSZ := Lib.hid hsz3
  have HNN := Lib.hid hn
  have HH3 := Lib.hid h3
  have HX3 := Lib.hid hx3
  clear hBN hrow hbw hsz3 hn h3 hx3 HR1 HR2
  go_loopg [7] l (fun gk v wr => ∃ (i : Nat) (S1 S2 : Nat → Prop) (now safe : List UInt8) (waits : List (Nat × List UInt8)), i + gk = l ∧ v = .int .i64 (i : Int) ∧ Both wr n (n + 1) n S1 S2 now safe waits ∧ waits.length ≤ 10 * i ∧ Below n w3 wr)
  case atStart => exact ⟨0, _, _, _, _, _, by omega, rfl, HBN.out, by simp, Below.refl _ _⟩
  case round =>
    clear HBN
    obtain ⟨i, S1, S2, now, safe, waits, hi, rfl, hbo, hwl, hbe⟩ := hrel
    have HBO := Lib.hid hbo
    have HWL := Lib.hid hwl
    have HBE := Lib.hid hbe
    have HBWr : Hid (Below w.heap.size w wr) := HBW.out.trans (hbe.mono (by have := HNN.out; omega))
    have HSZr : Hid (n ≤ wr.heap.size) := Nat.le_trans HSZ.out hbe.size
    clear hbo hwl hbe
    by_cases hil : i < l
    · obtain ⟨o, ho⟩ := get_lt (bs := rs) (k := i) (by rw [HL.out]; exact hil)
      have hgo := HG.out o (List.mem_of_getElem? ho)
      have hb3 := HH3.out o (List.mem_of_getElem? ho)
      have HDO := Lib.hid (does_all n (n + 1) n S1 S2 now safe waits o w wr hgo hb3 HBO.out HSZr.out (by have := HNN.out; omega) HBWr.out (by have := HWL.out; omega))
      have hpos : 0 < ((rs.map DOp.code).flatten).length := (List.getElem?_eq_some_iff.1 (code_at (s := 5) (j := 0) HS.out ho rfl)).1 |> fun h => by omega
      obtain ⟨b', o', rfl, hbB, hcell⟩ := (HC.out.below HBWr.out (Nat.le_refl _)) hpos
      have hc0 := hcell _ _ (code_at (s := 5) (j := 0) HS.out ho rfl)
      have hc1 := hcell _ _ (code_at (s := 5) (j := 1) HS.out ho rfl)
      have hc2 := hcell _ _ (code_at (s := 5) (j := 2) HS.out ho rfl)
      have hc3 := hcell _ _ (code_at (s := 5) (j := 3) HS.out ho rfl)
      have hc4 := hcell _ _ (code_at (s := 5) (j := 4) HS.out ho rfl)
      clear hcell ho hgo hbB hb3
      rw [Nat.add_zero] at hc0
      rw [← Nat.add_assoc] at hc1 hc2 hc3 hc4
      go_wp2_with (go_at_call 8; refine HDO.out.mono ?_; rintro e w5 ⟨rfl, S1', S2', now', safe', waits', hbo, hbe, hwl⟩; have HBO5 := Lib.hid hbo; have HBE5 := Lib.hid hbe; have HWL5 := Lib.hid hwl; clear hbo hbe hwl)
      go_roundg (gk - 1)
      case measure => omega
      case rel => exact ⟨i + 1, S1', S2', now', safe', waits', by omega, rfl, HBO5.out, by have := HWL5.out; have := HWL.out; omega, HBE.out.trans HBE5.out⟩
    · obtain rfl : i = l := by omega
      have hgood := HBO.out.good
      obtain ⟨z, hz⟩ : ∃ z, now.length = 512 * z := ⟨now.length / 512, by have := hgood.m1; omega⟩
      have hz6 : z ≤ 4096 := by have := hgood.top; omega
      have HZ := Lib.hid hz
      have HTOP := Lib.hid hgood.top
      have HG0 := Lib.hid hgood
      have HD0 := Lib.hid HBO.out.dk
      have HB0 := Lib.hid HBO.out.b1
      have hzw : IntKind.i64.wrap (512 * (z : Int)) = 512 * (z : Int) := IntWalk.i64_in _ (by omega)
      clear hgood hz
      have HBE0 := Lib.hid HBE.out
      obtain ⟨r2, now2, waits2, hg2, hwl2, hall2, hwr2⟩ := write_one n now x.B x.bl x.bc x.bs x.at_ HX.out.bl HX3.out HX.out.a0 HX.out.a1 HG0.out.sync
      have HG2 := Lib.hid hg2
      have HWL2 := Lib.hid hwl2
      have HALL2 := Lib.hid hall2
      have HWR2 := Lib.hid hwr2
      obtain ⟨z2, hz2⟩ : ∃ z2, now2.length = 512 * z2 := ⟨now2.length / 512, by have := hg2.m1; omega⟩
      have hz26 : z2 ≤ 4096 := by have := hg2.top; omega
      have HZ2 := Lib.hid hz2
      have HKK : Hid (∀ (W : World) (S : Nat → Prop), Below w.heap.size w W → (∀ k, S k → n ≤ k) → 0 < x.ks.length → Kept W S x.K (boolCells x.ks)) := fun W S hW hS h0 => kept_of_cells (HX.out.kb.below hW (Nat.le_refl _)) (fun k hk => by have := hS k hk; have := HNN.out; omega) (by simpa [boolCells] using h0)
      have HKB : Hid (∀ (W : World) (S : Nat → Prop), Below w.heap.size w W → (∀ k, S k → n ≤ k) → 0 < x.bl → Kept W S x.B (byteCells x.bs)) := fun W S hW hS h0 => kept_of_cells (HX.out.bb.below hW (Nat.le_refl _)) (fun k hk => by have := hS k hk; have := HNN.out; omega) (by rw [byteCells_length, HX.out.bl]; exact h0)
      have HWB : Hid (∀ W, Below n w3 W → Below w.heap.size w W) := fun W h => HBW.out.trans (h.mono (by have := HNN.out; omega))
      have HWS : Hid (∀ W, Below n w3 W → n ≤ W.heap.size) := fun W h => Nat.le_trans HSZ.out h.size
      have hkl := HX.out.kl
      have hkl9 := HX.out.km
      clear hg2 hwl2 hall2 hwr2 hz2
      have hmk := make_bools4 waits2.length (by have := HWL2.out; omega)
      go_wp2_with (first
        | (go_at_call 10; refine (sync_any n n S1 now safe waits wr HD0.out HTOP.out HSZr.out).mono ?_; clear HD0; rintro e w5 ⟨rfl, SA, hd, hm, hp⟩; have HD1 := Lib.hid hd; have HP1 : Hid (∀ k, SA k → n ≤ k) := (fun k hk => (hp k hk).elim (HB0.out k) (fun h => Nat.le_trans HSZr.out h)); have HB1 := Lib.hid (hm.below HBE0.out HSZr.out HB0.out); clear hd hm hp)
        | (go_at_call 12; refine (dsize_z _ _ _ _ _ _ z _ HD1.out HTOP.out HZ.out).mono ?_; rintro e w' ⟨rfl, rfl⟩)
        | (go_at_call 12; refine (dsize_z _ _ _ _ _ _ z _ HD3.out HTOP.out HZ.out).mono ?_; rintro e w' ⟨rfl, rfl⟩)
        | (go_at_call 11; refine (dread_z _ _ _ _ _ _ z _ HD1.out HTOP.out HZ.out).mono ?_; rintro e w6 ⟨A1, c1, rfl, hown, hb6⟩; have HT1 := Lib.hid (Txt.of_own (S := SA) hown (fun k hk => HD1.out.lt k hk) HZ.out); have HD2 := Lib.hid (HD1.out.keep0 (Mod.of_below hb6)); have HB2 := Lib.hid (HB1.out.trans (hb6.mono (HWS.out _ HB1.out))); clear hown hb6 HD1; obtain ⟨e0, e1, e2, e3, e4⟩ := row5_cells ((HB2.out.block w.heap.size (by have := HNN.out; omega)).trans HROW.out))
        | (go_at_call 13; rw [← hkl]; refine (crash_any n n SA now now [] x.K x.kc x.fill x.ks _ HD2.out HG0.out.sync (HWS.out _ HB2.out) (by simp) (by rw [hkl]; exact hkl9) (HKK.out _ SA (HWB.out _ HB2.out) HP1.out) HX.out.f).mono ?_; rw [crash_none]; rintro e w7 ⟨rfl, SB, hd, hm, hp⟩; have HD3 := Lib.hid hd; have HP3 : Hid (∀ k, SB k → n ≤ k) := (fun k hk => (hp k hk).elim (HP1.out k) (fun h => Nat.le_trans (HWS.out _ HB2.out) h)); have HB3 := Lib.hid (hm.below HB2.out (HWS.out _ HB2.out) HP1.out); have HT1b := Lib.hid (HT1.out.step hm (fun _ h => h) hp); clear hd hm hp HD2 HT1; clear e0 e1 e2 e3 e4; obtain ⟨e0, e1, e2, e3, e4⟩ := row5_cells ((HB3.out.block w.heap.size (by have := HNN.out; omega)).trans HROW.out))
        | (go_at_call 11; refine (dread_z _ _ _ _ _ _ z _ HD3.out HTOP.out HZ.out).mono ?_; rintro e w8 ⟨A2, c2, rfl, hown, hb6⟩; have HT2 := Lib.hid (Txt.of_own (S := SB) hown (fun k hk => HD3.out.lt k hk) HZ.out); have hst2 := HT2.out.str (c := c2) HZ.out; have hst1 := (HT1b.out.step (Mod.of_below hb6) (fun _ h => h.elim) (fun _ h => .inl h)).str (c := c1) HZ.out; have HD4 := Lib.hid (HD3.out.keep0 (Mod.of_below hb6)); have HB4 := Lib.hid (HB3.out.trans (hb6.mono (HWS.out _ HB3.out))); clear hown hb6 HD3; clear e0 e1 e2 e3 e4; obtain ⟨e0, e1, e2, e3, e4⟩ := row5_cells ((HB4.out.block w.heap.size (by have := HNN.out; omega)).trans HROW.out))
        | (go_at_call 14; refine (HWR2.out _ n SB HD4.out (HWS.out _ HB4.out) (HKB.out _ SB (HWB.out _ HB4.out) HP3.out)).mono ?_; rintro e w9 ⟨rfl, SC, hd, hm, hp⟩; have HD5 := Lib.hid hd; have HP5 : Hid (∀ k, SC k → n ≤ k) := (fun k hk => (hp k hk).elim (HP3.out k) (fun h => Nat.le_trans (HWS.out _ HB4.out) h)); have HB5 := Lib.hid (hm.below HB4.out (HWS.out _ HB4.out) HP3.out); clear hd hm hp HD4 hst1 hst2; clear e0 e1 e2 e3 e4; obtain ⟨e0, e1, e2, e3, e4⟩ := row5_cells ((HB5.out.block w.heap.size (by have := HNN.out; omega)).trans HROW.out))
        | (go_at_call 12; refine (dsize_z _ _ _ _ _ _ z2 _ HD5.out HG2.out.top HZ2.out).mono ?_; rintro e w' ⟨rfl, rfl⟩)
        | (go_at_call 12; refine (dsize_z _ _ _ _ _ _ z2 _ HD6.out HG2.out.top HZ2.out).mono ?_; rintro e w' ⟨rfl, rfl⟩)
        | (go_at_call 11; refine (dread_z _ _ _ _ _ _ z2 _ HD5.out HG2.out.top HZ2.out).mono ?_; rintro e w10 ⟨A3, c3, rfl, hown, hb6⟩; have HT3 := Lib.hid (Txt.of_own (S := SC) hown (fun k hk => HD5.out.lt k hk) HZ2.out); have HD6 := Lib.hid (HD5.out.keep0 (Mod.of_below hb6)); have HB6 := Lib.hid (HB5.out.trans (hb6.mono (HWS.out _ HB5.out))); clear hown hb6 HD5; clear e0 e1 e2 e3 e4; obtain ⟨e0, e1, e2, e3, e4⟩ := row5_cells ((HB6.out.block w.heap.size (by have := HNN.out; omega)).trans HROW.out))
        | (go_at_call 15; refine (dwaiting_any _ _ _ _ _ _ _ HD6.out).mono ?_; rintro e w' ⟨rfl, rfl⟩))
      have HD6r := Lib.hid HD6.out
      generalize hgb : w10.heap.size = gb at *
      have HGB := Lib.hid hgb
      clear hgb
      obtain ⟨m, hm0⟩ : ∃ m, m = waits2.length := ⟨_, rfl⟩
      have HMW := Lib.hid hm0
      have hmle : m ≤ 10 := by rw [hm0]; exact HWL2.out
      rw [← hm0]
      clear hm0
      rw [tf_zero]
      go_loopg [14] m (fun gk v wq => ∃ k : Nat, k + gk = m ∧ v = .int .i64 (k : Int) ∧ wq.heap[gb]? = some (.cells (boolCells (tf m k)).toArray 4 (0, 0)) ∧ Mod (oneB gb) w10 wq)
      case atStart => exact ⟨0, by omega, rfl, by rw [← HGB.out]; exact heap_alloc_new w10 _, (Mod.refl _ _).alloc _⟩
      case round =>
        obtain ⟨k, hk, rfl, hrw, hmq⟩ := hrel
        have HRW := Lib.hid hrw
        have HMQ := Lib.hid hmq
        by_cases hkm : k < m
        · have hcl := cell_of_row wr gb k _ _ _ hrw
          have hfr := frozen_of_row wr gb k _ _ hrw
          have hvl : (boolCells (tf m k)).toArray[k]? = some (boolCells (tf m k))[k]! := by
            simp [boolCells, tf_length m k (by omega), hkm]
          rw [hvl] at hcl
          clear hvl
          go_wp2
          go_roundg (gk - 1)
          case measure => omega
          case rel => exact ⟨k + 1, by omega, rfl, by rw [← tf_set m k hkm]; exact heap_setCell_same wr gb k _ _ _ HRW.out, HMQ.out.set _ _ (.inl rfl)⟩
        · obtain rfl : k = m := by omega
          have hmf : Mod noB w10 wr := HMQ.out.fresh (fun q hq => .inr (by rw [show q = gb from hq, HGB.out]; exact Nat.le_refl _))
          have HD7 := Lib.hid (HD6r.out.keep0 hmf)
          have HB7 := Lib.hid (hmf.below HB6.out (HWS.out _ HB6.out) (fun _ h => h.elim))
          have HT3q := Lib.hid (HT3.out.step hmf (fun _ h => h.elim) (fun _ h => .inl h))
          clear e0 e1 e2 e3 e4
          obtain ⟨e0, e1, e2, e3, e4⟩ := row5_cells ((HB7.out.block w.heap.size (by have := HNN.out; omega)).trans HROW.out)
          have HFW : Hid (((x.fill : Int) + 1) % 256 = (((x.fill + 1) % 256 : Nat) : Int)) := by show _ = _; omega
          have hqz : ((512 * z : Nat) : Int) / 512 = (z : Int) := by omega
          by_cases hzz : z = z2
          · have hzd : ((z : Int) == (z2 : Int)) = true := by simp; omega
            have hkall : 0 < (List.replicate k true).length → Kept wr SC (some ⟨gb, 0, none⟩) (boolCells (List.replicate k true)) := fun _ => ⟨gb, 0, _, _, _, rfl, fun h => by have h1 := HD6r.out.lt gb h; rw [HGB.out] at h1; omega, HRW.out, fun j u hj => by rw [tf_end, Nat.zero_add]; simpa using hj⟩
            have hca := crash_any n n SC now2 now waits2 (some ⟨gb, 0, none⟩) k x.fill (List.replicate k true) wr HD7.out HG2.out (HWS.out _ HB7.out) (by have := HWL2.out; omega) (by simp; omega) hkall HX.out.f
            rw [HMW.out, HALL2.out (by rw [HZ2.out, HZ.out, hzz]), ← HMW.out, List.length_replicate] at hca
            have HCA := Lib.hid hca
            clear hca hkall hmf hrw hmq
            go_wp2_with (first
              | (go_at_call 13; refine (HCA.out).mono ?_; rintro e w11 ⟨rfl, SD, hd, hm, hp⟩; have HD7b := Lib.hid hd; have HP8 : Hid (∀ k, SD k → n ≤ k) := (fun k hk => (hp k hk).elim (HP5.out k) (fun h => Nat.le_trans (HWS.out _ HB7.out) h)); have HB7b := Lib.hid (hm.below HB7.out (HWS.out _ HB7.out) HP5.out); have HT3b := Lib.hid (HT3q.out.step hm (fun _ h => h) hp); clear hd hm hp HCA HD7; clear e0 e1 e2 e3 e4; obtain ⟨e0, e1, e2, e3, e4⟩ := row5_cells ((HB7b.out.block w.heap.size (by have := HNN.out; omega)).trans HROW.out))
              | (go_at_call 12; refine (dsize_z _ _ _ _ _ _ z2 _ HD7b.out HG2.out.top HZ2.out).mono ?_; rintro e w' ⟨rfl, rfl⟩)
              | (go_at_call 11; refine (dread_z _ _ _ _ _ _ z2 _ HD7b.out HG2.out.top HZ2.out).mono ?_; rintro e w16 ⟨A4, c4, rfl, hown, hb6⟩; have HT4 := Lib.hid (Txt.of_own (S := SD) hown (fun k hk => HD7b.out.lt k hk) HZ2.out); have hst4 := HT4.out.str (c := c4) HZ2.out; have hst3 := (HT3b.out.step (Mod.of_below hb6) (fun _ h => h.elim) (fun _ h => .inl h)).str (c := c3) HZ2.out; have HB8 := Lib.hid (HB7b.out.trans (hb6.mono (HWS.out _ HB7b.out))); obtain ⟨N8, F8, W8, hN8, hF8, hW8⟩ : ∃ N8 F8 W8, N8 = now2 ∧ F8 = now2 ∧ W8 = ([] : List (Nat × List UInt8)) := ⟨_, _, _, rfl, rfl, rfl⟩; have HD8 : Hid (DkS w16 n n SD N8 F8 W8) := (by rw [hN8, hF8, hW8]; exact HD7b.out.keep0 (Mod.of_below hb6)); have HG8 : Hid (Good N8 F8 W8) := (by rw [hN8, hF8, hW8]; exact HG2.out.sync); have HL8 : Hid (N8.length = 512 * z2) := (by rw [hN8]; exact HZ2.out); have HW8 : Hid (W8.length ≤ 10) := (by rw [hW8]; exact Nat.zero_le _); clear hown hb6 HD7b hN8 hF8 hW8; clear e0 e1 e2 e3 e4; obtain ⟨e0, e1, e2, e3, e4⟩ := row5_cells ((HB8.out.block w.heap.size (by have := HNN.out; omega)).trans HROW.out))
              | (go_at_call 13; rw [← hkl]; refine (crash_any n n SD N8 F8 W8 x.K x.kc x.fill x.ks _ HD8.out HG8.out (HWS.out _ HB8.out) (by have := HW8.out; omega) (by rw [hkl]; exact hkl9) (HKK.out _ SD (HWB.out _ HB8.out) HP8.out) HX.out.f).mono ?_; rintro e w12 ⟨rfl, SE, hd, hm, hp⟩; have HD9 := Lib.hid hd; have HL9 : Hid ((crashNow N8 F8 W8 x.ks x.fill).length = 512 * z2) := (crashNow_length HG8.out x.ks x.fill).trans HL8.out; have HG9 := Lib.hid (HG8.out.crash x.ks x.fill); have HP9 : Hid (∀ k, SE k → n ≤ k) := (fun k hk => (hp k hk).elim (HP8.out k) (fun h => Nat.le_trans (HWS.out _ HB8.out) h)); have HB9 := Lib.hid (hm.below HB8.out (HWS.out _ HB8.out) HP8.out); clear hd hm hp HD8; clear e0 e1 e2 e3 e4; obtain ⟨e0, e1, e2, e3, e4⟩ := row5_cells ((HB9.out.block w.heap.size (by have := HNN.out; omega)).trans HROW.out))
              | (go_at_call 12; refine (dsize_z _ _ _ _ _ _ z2 _ HD9.out HG9.out.top HL9.out).mono ?_; rintro e w' ⟨rfl, rfl⟩)
              | (go_at_call 12; refine (dsize_z _ _ _ _ _ _ z2 _ HD11.out HG9.out.top HL9.out).mono ?_; rintro e w' ⟨rfl, rfl⟩)
              | (go_at_call 12; refine (dsize_z _ _ _ _ _ _ z2 _ HD12.out HG9.out.top HL9.out).mono ?_; rintro e w' ⟨rfl, rfl⟩)
              | (go_at_call 11; refine (dread_z _ _ _ _ _ _ z2 _ HD9.out HG9.out.top HL9.out).mono ?_; rintro e w13 ⟨A5, c5, rfl, hown, hb6⟩; have HT5 := Lib.hid (Txt.of_own (S := SE) hown (fun k hk => HD9.out.lt k hk) HL9.out); have HD10 := Lib.hid (HD9.out.keep0 (Mod.of_below hb6)); have HB10 := Lib.hid (HB9.out.trans (hb6.mono (HWS.out _ HB9.out))); clear hown hb6 HD9; clear e0 e1 e2 e3 e4; obtain ⟨e0, e1, e2, e3, e4⟩ := row5_cells ((HB10.out.block w.heap.size (by have := HNN.out; omega)).trans HROW.out))
              | (go_at_call 13; rw [HFW.out]; refine (crash_any n n SE _ _ [] none 0 ((x.fill + 1) % 256) [] _ HD10.out HG9.out (HWS.out _ HB10.out) (by simp) (by simp) (fun h => by simp at h) (by omega)).mono ?_; rw [crash_none]; rintro e w14 ⟨rfl, SF, hd, hm, hp⟩; have HD11 := Lib.hid hd; have HP11 : Hid (∀ k, SF k → n ≤ k) := (fun k hk => (hp k hk).elim (HP9.out k) (fun h => Nat.le_trans (HWS.out _ HB10.out) h)); have HB11 := Lib.hid (hm.below HB10.out (HWS.out _ HB10.out) HP9.out); have HT5b := Lib.hid (HT5.out.step hm (fun _ h => h) hp); clear hd hm hp HD10 HT5; clear e0 e1 e2 e3 e4; obtain ⟨e0, e1, e2, e3, e4⟩ := row5_cells ((HB11.out.block w.heap.size (by have := HNN.out; omega)).trans HROW.out))
              | (go_at_call 11; refine (dread_z _ _ _ _ _ _ z2 _ HD11.out HG9.out.top HL9.out).mono ?_; rintro e w15 ⟨A6, c6, rfl, hown, hb6⟩; have HT6 := Lib.hid (Txt.of_own (S := SF) hown (fun k hk => HD11.out.lt k hk) HL9.out); have hst6 := HT6.out.str (c := c6) HL9.out; have hst5 := (HT5b.out.step (Mod.of_below hb6) (fun _ h => h.elim) (fun _ h => .inl h)).str (c := c5) HL9.out; have HD12 := Lib.hid (HD11.out.keep0 (Mod.of_below hb6)); have HB12 := Lib.hid (HB11.out.trans (hb6.mono (HWS.out _ HB11.out))); clear hown hb6 HD11; clear e0 e1 e2 e3 e4; obtain ⟨e0, e1, e2, e3, e4⟩ := row5_cells ((HB12.out.block w.heap.size (by have := HNN.out; omega)).trans HROW.out))
              | (go_at_call 15; refine (dwaiting_any _ _ _ _ _ _ _ HD12.out).mono ?_; rintro e w' ⟨rfl, rfl⟩)
              | (go_at_call 7; refine (HLV.out _).mono ?_; rintro e wz ⟨rfl, hb9⟩; have HBZ := Lib.hid ((HWB.out _ HB12.out).trans (hb9.mono (HWB.out _ HB12.out).size)); clear hb9))
            go_ret
            exact ⟨rfl, HBZ.out⟩
          · have hzd : ((z : Int) == (z2 : Int)) = false := by simp; omega
            obtain ⟨N8, F8, W8, hN8, hF8, hW8⟩ : ∃ N8 F8 W8, N8 = now2 ∧ F8 = now ∧ W8 = waits2 := ⟨_, _, _, rfl, rfl, rfl⟩
            obtain ⟨SD, hSD⟩ : ∃ SD, SD = SC := ⟨_, rfl⟩
            have HD8 : Hid (DkS wr n n SD N8 F8 W8) := by rw [hN8, hF8, hW8, hSD]; exact HD7.out
            have HG8 : Hid (Good N8 F8 W8) := by rw [hN8, hF8, hW8]; exact HG2.out
            have HL8 : Hid (N8.length = 512 * z2) := by rw [hN8]; exact HZ2.out
            have HW8 : Hid (W8.length ≤ 10) := by rw [hW8]; exact HWL2.out
            have HP8 : Hid (∀ k, SD k → n ≤ k) := by rw [hSD]; exact HP5.out
            have HB8 := Lib.hid HB7.out
            clear hmf hrw hmq hN8 hF8 hW8 hSD hzz HD7 HB7
            go_wp2_with (first
              | (go_at_call 13; rw [← hkl]; refine (crash_any n n SD N8 F8 W8 x.K x.kc x.fill x.ks _ HD8.out HG8.out (HWS.out _ HB8.out) (by have := HW8.out; omega) (by rw [hkl]; exact hkl9) (HKK.out _ SD (HWB.out _ HB8.out) HP8.out) HX.out.f).mono ?_; rintro e w12 ⟨rfl, SE, hd, hm, hp⟩; have HD9 := Lib.hid hd; have HL9 : Hid ((crashNow N8 F8 W8 x.ks x.fill).length = 512 * z2) := (crashNow_length HG8.out x.ks x.fill).trans HL8.out; have HG9 := Lib.hid (HG8.out.crash x.ks x.fill); have HP9 : Hid (∀ k, SE k → n ≤ k) := (fun k hk => (hp k hk).elim (HP8.out k) (fun h => Nat.le_trans (HWS.out _ HB8.out) h)); have HB9 := Lib.hid (hm.below HB8.out (HWS.out _ HB8.out) HP8.out); clear hd hm hp HD8; clear e0 e1 e2 e3 e4; obtain ⟨e0, e1, e2, e3, e4⟩ := row5_cells ((HB9.out.block w.heap.size (by have := HNN.out; omega)).trans HROW.out))
              | (go_at_call 12; refine (dsize_z _ _ _ _ _ _ z2 _ HD9.out HG9.out.top HL9.out).mono ?_; rintro e w' ⟨rfl, rfl⟩)
              | (go_at_call 12; refine (dsize_z _ _ _ _ _ _ z2 _ HD11.out HG9.out.top HL9.out).mono ?_; rintro e w' ⟨rfl, rfl⟩)
              | (go_at_call 12; refine (dsize_z _ _ _ _ _ _ z2 _ HD12.out HG9.out.top HL9.out).mono ?_; rintro e w' ⟨rfl, rfl⟩)
              | (go_at_call 11; refine (dread_z _ _ _ _ _ _ z2 _ HD9.out HG9.out.top HL9.out).mono ?_; rintro e w13 ⟨A5, c5, rfl, hown, hb6⟩; have HT5 := Lib.hid (Txt.of_own (S := SE) hown (fun k hk => HD9.out.lt k hk) HL9.out); have HD10 := Lib.hid (HD9.out.keep0 (Mod.of_below hb6)); have HB10 := Lib.hid (HB9.out.trans (hb6.mono (HWS.out _ HB9.out))); clear hown hb6 HD9; clear e0 e1 e2 e3 e4; obtain ⟨e0, e1, e2, e3, e4⟩ := row5_cells ((HB10.out.block w.heap.size (by have := HNN.out; omega)).trans HROW.out))
              | (go_at_call 13; rw [HFW.out]; refine (crash_any n n SE _ _ [] none 0 ((x.fill + 1) % 256) [] _ HD10.out HG9.out (HWS.out _ HB10.out) (by simp) (by simp) (fun h => by simp at h) (by omega)).mono ?_; rw [crash_none]; rintro e w14 ⟨rfl, SF, hd, hm, hp⟩; have HD11 := Lib.hid hd; have HP11 : Hid (∀ k, SF k → n ≤ k) := (fun k hk => (hp k hk).elim (HP9.out k) (fun h => Nat.le_trans (HWS.out _ HB10.out) h)); have HB11 := Lib.hid (hm.below HB10.out (HWS.out _ HB10.out) HP9.out); have HT5b := Lib.hid (HT5.out.step hm (fun _ h => h) hp); clear hd hm hp HD10 HT5; clear e0 e1 e2 e3 e4; obtain ⟨e0, e1, e2, e3, e4⟩ := row5_cells ((HB11.out.block w.heap.size (by have := HNN.out; omega)).trans HROW.out))
              | (go_at_call 11; refine (dread_z _ _ _ _ _ _ z2 _ HD11.out HG9.out.top HL9.out).mono ?_; rintro e w15 ⟨A6, c6, rfl, hown, hb6⟩; have HT6 := Lib.hid (Txt.of_own (S := SF) hown (fun k hk => HD11.out.lt k hk) HL9.out); have hst6 := HT6.out.str (c := c6) HL9.out; have hst5 := (HT5b.out.step (Mod.of_below hb6) (fun _ h => h.elim) (fun _ h => .inl h)).str (c := c5) HL9.out; have HD12 := Lib.hid (HD11.out.keep0 (Mod.of_below hb6)); have HB12 := Lib.hid (HB11.out.trans (hb6.mono (HWS.out _ HB11.out))); clear hown hb6 HD11; clear e0 e1 e2 e3 e4; obtain ⟨e0, e1, e2, e3, e4⟩ := row5_cells ((HB12.out.block w.heap.size (by have := HNN.out; omega)).trans HROW.out))
              | (go_at_call 15; refine (dwaiting_any _ _ _ _ _ _ _ HD12.out).mono ?_; rintro e w' ⟨rfl, rfl⟩)
              | (go_at_call 7; refine (HLV.out _).mono ?_; rintro e wz ⟨rfl, hb9⟩; have HBZ := Lib.hid ((HWB.out _ HB12.out).trans (hb9.mono (HWB.out _ HB12.out).size)); clear hb9))
            go_ret
            exact ⟨rfl, HBZ.out⟩
end Go.Proofs.Ytbchageboghilaa
