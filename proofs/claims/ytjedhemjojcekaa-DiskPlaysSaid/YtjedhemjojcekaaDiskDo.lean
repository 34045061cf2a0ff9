/- Layer 4: a call of both, and whether both are the same. -/
import Derived.Test.YtjedhemjojcekaaDiskBo
import Derived.BigRegion
namespace Go.Proofs.Ytjedhemjojcekaa
open Go.RowKit
attribute [local go_sem ↓] Go.wp_at_zero Go.wp_at_succ

theorem row5_cells {w : World} {g : Nat} {t : TypeId} {a b c d e : Value} (h : w.heap[g]? = some (.cells #[a, b, c, d, e] t (0, 0))) :
    w.cell? ⟨g, 0, none⟩ = some a ∧ w.cell? ⟨g, 1, none⟩ = some b ∧ w.cell? ⟨g, 2, none⟩ = some c ∧ w.cell? ⟨g, 3, none⟩ = some d ∧ w.cell? ⟨g, 4, none⟩ = some e :=
  ⟨cell_of_row w g 0 _ _ _ h, cell_of_row w g 1 _ _ _ h, cell_of_row w g 2 _ _ _ h, cell_of_row w g 3 _ _ _ h, cell_of_row w g 4 _ _ _ h⟩

section
variable (gd gm base : Nat) (S1 S2 : Nat → Prop) (now safe : List UInt8) (waits : List (Nat × List UInt8)) (B K : Option Addr) (bl bc kl kc fill : Nat) (bs : List UInt8) (ks : List Bool)
set_option maxRecDepth 100000 in
set_option maxHeartbeats 2000000 in
theorem does_write (p : Int) (w : World) (hb : Both w gd gm base S1 S2 now safe waits) (hbase : base ≤ w.heap.size) (hw : waits.length ≤ 1000000) (hbl : bs.length = bl) (hb3 : bl ≤ 3000) (hbc : bl ≤ bc) (p0 : -9223372036854775808 ≤ p) (p1 : p ≤ 9223372036854775807) (hB : Cells w base B (byteCells bs)) :
    Calls Try.prog 6 #[.pointer (some ⟨gd, 0, none⟩), .pointer (some ⟨gm, 0, none⟩), .agg #[.int .i64 0, .int .i64 p, .slice B bl bc, .slice K kl kc, .int .u8 (fill : Int)]] w fun e w' => e = .returned (.bool true) ∧
      ∃ S1' S2' now' safe' waits', Both w' gd gm base S1' S2' now' safe' waits' ∧ Below base w w' ∧ waits'.length ≤ waits.length + 10 := by
  obtain ⟨r, now', waits', hg2, hwl, hD, hR⟩ := write_both base now safe waits B bl bc bs p hbl hb3 hbc p0 p1 hb.good hw
  have HB := Lib.hid hb
  have HBS := Lib.hid hbase
  have HG2 := Lib.hid hg2
  have HKP : Hid (∀ (W : World) (S : Nat → Prop), Below base w W → (∀ k, S k → base ≤ k) → 0 < bl → Kept W S B (byteCells bs)) := fun W S hW hS h0 => kept_of_cells (hB.below hW (Nat.le_refl _)) hS (by rw [byteCells_length, hbl]; exact h0)
  have HD1 := Lib.hid (fun W (hW : Mod noB w W) => hD W gd S1 (HB.out.dk.keep0 hW) (Nat.le_trans HBS.out hW.size) (HKP.out W S1 (hW.below (Below.refl base w) HBS.out (fun _ h => h.elim)) HB.out.b1))
  have HRX := Lib.hid (fun w5 (h5 : RfS w5 gm base S2 now safe waits) (hb5 : Below base w w5) W (hW : Mod noB w5 W) => hR W gm S2 (h5.keep hW) (Nat.le_trans HBS.out (Nat.le_trans hb5.size hW.size)) (HKP.out W S2 (hW.below hb5 (Nat.le_trans HBS.out hb5.size) (fun _ h => h.elim)) HB.out.b2))
  have HWL := Lib.hid hwl
  clear hb hbase hg2 hD hR hB hwl
  go_enter Try.func6, Try.ntmps6
  go_wp2_with fail
  go_region_with (first
    | (go_at_call 8; go_must (skip; refine (HD1.out _ (by first | exact ((Mod.refl noB w).alloc _).drew | exact (Mod.refl noB w).alloc _)).mono ?_; rintro e w5 ⟨rfl, S1', hd, hm, hp⟩; have HM5 : Hid (Mod S1 w w5) := (by first | exact ((Mod.refl S1 w).alloc _).drew.then_ hm | exact ((Mod.refl S1 w).alloc _).then_ hm); have HR5 := Lib.hid (HB.out.rf.sep HB.out.dk HM5.out); have HD5 := Lib.hid hd; have hrow : w5.heap[w.heap.size]? = some (.cells #[.int .i64 0, .int .i64 p, .slice B bl bc, .slice K kl kc, .int .u8 (fill : Int)] 38 (0, 0)) := hm.keep (heap_alloc_new w (.cells #[.int .i64 0, .int .i64 p, .slice B bl bc, .slice K kl kc, .int .u8 (fill : Int)] 38)) (fun h => by have := HB.out.dk.lt _ h; omega); obtain ⟨a0, a1, a2, a3, a4⟩ := row5_cells hrow; have HB5 := Lib.hid (HM5.out.below (Below.refl base w) HBS.out HB.out.b1); have HP5 : Hid (∀ k, S1' k → base ≤ k) := (fun k hk => (hp k hk).elim (HB.out.b1 k) (fun h => Nat.le_trans HBS.out (Nat.le_trans (by first | exact ((Mod.refl noB w).alloc _).size | exact Nat.le_refl _) h))); have HRW := Lib.hid (HRX.out w5 HR5.out HB5.out); clear hd hm hp hrow))
    | (go_at_call 11; refine (HRW.out _ (by first | exact Mod.refl _ _ | exact (Mod.refl _ _).drew)).mono ?_; rintro e w7 ⟨rfl, S2', hr, hm7, hp7⟩; have HM7 : Hid (Mod S2 w5 w7) := (by first | exact hm7 | exact (Mod.refl S2 w5).drew.then_ hm7); have HBE := Lib.hid (HM7.out.below HB5.out (Nat.le_trans HBS.out HB5.out.size) HB.out.b2); have HBO : Hid (Both w7 gd gm base S1' S2' now' safe waits') := ⟨HD5.out.sep HR5.out HM7.out, hr, HG2.out, HP5.out, fun k hk => (hp7 k hk).elim (HB.out.b2 k) (fun h => Nat.le_trans HBS.out (Nat.le_trans HB5.out.size h))⟩; clear hr hm7 hp7))
  all_goals (try go_wp2)
  all_goals go_ret
  all_goals exact ⟨rfl, S1', S2', now', safe, waits', HBO.out, HBE.out, HWL.out⟩
set_option maxRecDepth 100000 in
set_option maxHeartbeats 2000000 in
theorem does_sync (p : Int) (w : World) (hb : Both w gd gm base S1 S2 now safe waits) (hbase : base ≤ w.heap.size) (_hw : waits.length ≤ 1000000) :
    Calls Try.prog 6 #[.pointer (some ⟨gd, 0, none⟩), .pointer (some ⟨gm, 0, none⟩), .agg #[.int .i64 1, .int .i64 p, .slice B bl bc, .slice K kl kc, .int .u8 (fill : Int)]] w fun e w' => e = .returned (.bool true) ∧
      ∃ S1' S2' now' safe' waits', Both w' gd gm base S1' S2' now' safe' waits' ∧ Below base w w' ∧ waits'.length ≤ waits.length + 10 := by
  have HB := Lib.hid hb
  have HBS := Lib.hid hbase
  have HD1 := Lib.hid (fun W (hW : Mod noB w W) => sync_any gd base S1 now safe waits W (HB.out.dk.keep0 hW) HB.out.good.top (Nat.le_trans HBS.out hW.size))
  have HRX := Lib.hid (fun w5 (h5 : RfS w5 gm base S2 now safe waits) (hb5 : Below base w w5) W (hW : Mod noB w5 W) => rsync_any gm base S2 now safe waits W (h5.keep hW) HB.out.good.top)
  have HG2 := Lib.hid hb.good.sync
  clear hb hbase
  go_enter Try.func6, Try.ntmps6
  go_wp2_with (first
    | (go_at_call 12; go_must (skip; refine (HD1.out _ (by first | exact ((Mod.refl noB w).alloc _).drew | exact (Mod.refl noB w).alloc _)).mono ?_; rintro e w5 ⟨rfl, S1', hd, hm, hp⟩; have HM5 : Hid (Mod S1 w w5) := (by first | exact ((Mod.refl S1 w).alloc _).drew.then_ hm | exact ((Mod.refl S1 w).alloc _).then_ hm); have HR5 := Lib.hid (HB.out.rf.sep HB.out.dk HM5.out); have HD5 := Lib.hid hd; have hrow : w5.heap[w.heap.size]? = some (.cells #[.int .i64 1, .int .i64 p, .slice B bl bc, .slice K kl kc, .int .u8 (fill : Int)] 38 (0, 0)) := hm.keep (heap_alloc_new w (.cells #[.int .i64 1, .int .i64 p, .slice B bl bc, .slice K kl kc, .int .u8 (fill : Int)] 38)) (fun h => by have := HB.out.dk.lt _ h; omega); obtain ⟨a0, a1, a2, a3, a4⟩ := row5_cells hrow; have HB5 := Lib.hid (HM5.out.below (Below.refl base w) HBS.out HB.out.b1); have HP5 : Hid (∀ k, S1' k → base ≤ k) := (fun k hk => (hp k hk).elim (HB.out.b1 k) (fun h => Nat.le_trans HBS.out (Nat.le_trans (by first | exact ((Mod.refl noB w).alloc _).size | exact Nat.le_refl _) h))); have HRW := Lib.hid (HRX.out w5 HR5.out HB5.out); clear hd hm hp hrow))
    | (go_at_call 13; refine (HRW.out _ (by first | exact Mod.refl _ _ | exact (Mod.refl _ _).drew)).mono ?_; rintro e w7 ⟨rfl, S2', hr, hm7, hp7⟩; have HM7 : Hid (Mod S2 w5 w7) := (by first | exact hm7 | exact (Mod.refl S2 w5).drew.then_ hm7); have HBE := Lib.hid (HM7.out.below HB5.out (Nat.le_trans HBS.out HB5.out.size) HB.out.b2); have HBO : Hid (Both w7 gd gm base S1' S2' now now []) := ⟨HD5.out.sep HR5.out HM7.out, hr, HG2.out, HP5.out, fun k hk => (hp7 k hk).elim (HB.out.b2 k) (fun h => Nat.le_trans HBS.out (Nat.le_trans HB5.out.size h))⟩; clear hr hm7 hp7))
  go_ret
  exact ⟨rfl, S1', S2', _, _, [], HBO.out, HBE.out, by simp⟩
set_option maxRecDepth 100000 in
set_option maxHeartbeats 2000000 in
theorem does_crash (p : Int) (kind : Int) (w : World) (hb : Both w gd gm base S1 S2 now safe waits) (hbase : base ≤ w.heap.size) (hw : waits.length ≤ 1000000) (hk0 : ¬ kind = 0) (hk1 : ¬ kind = 1) (hkl : ks.length = kl) (hkm : kl ≤ 9223372036854775807) (hf : fill < 256) (hK : Cells w base K (boolCells ks)) :
    Calls Try.prog 6 #[.pointer (some ⟨gd, 0, none⟩), .pointer (some ⟨gm, 0, none⟩), .agg #[.int .i64 kind, .int .i64 p, .slice B bl bc, .slice K kl kc, .int .u8 (fill : Int)]] w fun e w' => e = .returned (.bool true) ∧
      ∃ S1' S2' now' safe' waits', Both w' gd gm base S1' S2' now' safe' waits' ∧ Below base w w' ∧ waits'.length ≤ waits.length + 10 := by
  have HB := Lib.hid hb
  have HBS := Lib.hid hbase
  have HKP : Hid (∀ (W : World) (S : Nat → Prop), Below base w W → (∀ k, S k → base ≤ k) → 0 < ks.length → Kept W S K (boolCells ks)) := fun W S hW hS h0 => kept_of_cells (hK.below hW (Nat.le_refl _)) hS (by simpa [boolCells] using h0)
  subst hkl
  have HD1 := Lib.hid (fun W (hW : Mod noB w W) => crash_any gd base S1 now safe waits K kc fill ks W (HB.out.dk.keep0 hW) HB.out.good (Nat.le_trans HBS.out hW.size) (by omega) hkm (HKP.out W S1 (hW.below (Below.refl base w) HBS.out (fun _ h => h.elim)) HB.out.b1) hf)
  have HRX := Lib.hid (fun w5 (h5 : RfS w5 gm base S2 now safe waits) (hb5 : Below base w w5) W (hW : Mod noB w5 W) => rcrash_any gm base S2 now safe waits K kc fill ks W (h5.keep hW) HB.out.good (by omega) hkm (HKP.out W S2 (hW.below hb5 (Nat.le_trans HBS.out hb5.size) (fun _ h => h.elim)) HB.out.b2) hf)
  have HG2 := Lib.hid (hb.good.crash ks fill)
  generalize hkl9 : ks.length = kl at *
  clear hK
  have e0 : (kind == 0) = false := by simpa using hk0
  have e1 : (kind == 1) = false := by simpa using hk1
  clear hk0 hk1
  clear hb hbase
  go_enter Try.func6, Try.ntmps6
  go_wp2_with (first
    | (go_at_call 14; go_must (skip; refine (HD1.out _ (by first | exact ((Mod.refl noB w).alloc _).drew | exact (Mod.refl noB w).alloc _)).mono ?_; rintro e w5 ⟨rfl, S1', hd, hm, hp⟩; have HM5 : Hid (Mod S1 w w5) := (by first | exact ((Mod.refl S1 w).alloc _).drew.then_ hm | exact ((Mod.refl S1 w).alloc _).then_ hm); have HR5 := Lib.hid (HB.out.rf.sep HB.out.dk HM5.out); have HD5 := Lib.hid hd; have hrow : w5.heap[w.heap.size]? = some (.cells #[.int .i64 kind, .int .i64 p, .slice B bl bc, .slice K kl kc, .int .u8 (fill : Int)] 38 (0, 0)) := hm.keep (heap_alloc_new w (.cells #[.int .i64 kind, .int .i64 p, .slice B bl bc, .slice K kl kc, .int .u8 (fill : Int)] 38)) (fun h => by have := HB.out.dk.lt _ h; omega); obtain ⟨a0, a1, a2, a3, a4⟩ := row5_cells hrow; have HB5 := Lib.hid (HM5.out.below (Below.refl base w) HBS.out HB.out.b1); have HP5 : Hid (∀ k, S1' k → base ≤ k) := (fun k hk => (hp k hk).elim (HB.out.b1 k) (fun h => Nat.le_trans HBS.out (Nat.le_trans (by first | exact ((Mod.refl noB w).alloc _).size | exact Nat.le_refl _) h))); have HRW := Lib.hid (HRX.out w5 HR5.out HB5.out); clear hd hm hp hrow))
    | (go_at_call 15; refine (HRW.out _ (by first | exact Mod.refl _ _ | exact (Mod.refl _ _).drew)).mono ?_; rintro e w7 ⟨rfl, S2', hr, hm7, hp7⟩; have HM7 : Hid (Mod S2 w5 w7) := (by first | exact hm7 | exact (Mod.refl S2 w5).drew.then_ hm7); have HBE := Lib.hid (HM7.out.below HB5.out (Nat.le_trans HBS.out HB5.out.size) HB.out.b2); have HBO : Hid (Both w7 gd gm base S1' S2' (crashNow now safe waits ks fill) (crashNow now safe waits ks fill) []) := ⟨HD5.out.sep HR5.out HM7.out, hr, HG2.out, HP5.out, fun k hk => (hp7 k hk).elim (HB.out.b2 k) (fun h => Nat.le_trans HBS.out (Nat.le_trans HB5.out.size h))⟩; clear hr hm7 hp7))
  go_ret
  exact ⟨rfl, S1', S2', _, _, [], HBO.out, HBE.out, by simp⟩
end
end Go.Proofs.Ytjedhemjojcekaa
