/- Layer 4: both disks are the same. -/
import Derived.Test.YtjedhemjojcekaaDiskBo
import Derived.Deep.RegionHeld3
import Derived.Deep.Cut
import Derived.WalkMore
namespace Go.Proofs.Ytjedhemjojcekaa
open Go.RowKit
attribute [local go_sem ↓] Go.wp_at_zero Go.wp_at_succ

theorem psize_z (g base : Nat) (S : Nat → Prop) (now safe : List UInt8) (waits : List (Nat × List UInt8)) (z : Nat) (w : World) (h : DkS w g base S now safe waits) (hm : now.length ≤ 2097152) (hz : now.length = 512 * z) :
    Calls Try.prog 9 #[.pointer (some ⟨g, 0, none⟩)] w fun e w' => e = .returned (.int .i64 (z : Int)) ∧ w = w' := by
  have := dsize_any g base S now safe waits w h hm
  rwa [show now.length / 512 = z by omega] at this
theorem pread_z (g base : Nat) (S : Nat → Prop) (now safe : List UInt8) (waits : List (Nat × List UInt8)) (z : Nat) (w : World) (h : DkS w g base S now safe waits) (hm : now.length ≤ 2097152) (hz : now.length = 512 * z) :
    Calls Try.prog 16 #[.pointer (some ⟨g, 0, none⟩), .int .i64 0, .int .i64 (512 * (z : Int))] w fun e w' => ∃ A c, e = .returned (.tuple #[.slice A (512 * z) c, .int .i64 0]) ∧ OwnB w' w.heap.size 5 (.slice A (512 * z) c) (512 * z) now ∧ Below w.heap.size w w' := by
  have := dread_any g base S now safe waits 0 (512 * z) w h hm (by simp [okW]; omega)
  rw [readV_all now (512 * z) hz] at this
  have e : ((512 * z : Nat) : Int) = 512 * (z : Int) := by omega
  rw [e] at this
  exact this
theorem pref_z (g base : Nat) (S : Nat → Prop) (now safe : List UInt8) (waits : List (Nat × List UInt8)) (z : Nat) (w : World) (h : RfS w g base S now safe waits) (hm : now.length ≤ 2097152) (hz : now.length = 512 * z) :
    Calls Try.prog 17 #[.pointer (some ⟨g, 0, none⟩), .int .i64 0, .int .i64 (512 * (z : Int))] w fun e w' => ∃ A c, e = .returned (.slice A (512 * z) c) ∧ OwnB w' w.heap.size 5 (.slice A (512 * z) c) (512 * z) now ∧ Below w.heap.size w w' := by
  have := rread_all g base S now safe waits w h hm (by omega)
  rw [hz] at this
  have e : ((512 * z : Nat) : Int) = 512 * (z : Int) := by omega
  rw [e] at this
  exact this
/-- Bytes that were read, in a block of their own. -/
def PTxt (w : World) (A : Option Addr) (bs : List UInt8) : Prop := bs = [] ∨ Kept w noB A (byteCells bs)
theorem PTxt.of_own {w W : World} {A : Option Addr} {n c : Nat} {bs : List UInt8} (h : OwnB w W.heap.size 5 (.slice A n c) n bs) (hn : bs.length = n) : PTxt w A bs := by
  rcases own_A h with ⟨_, h0, _⟩ | ⟨b, rfl⟩
  · exact .inl (List.eq_nil_of_length_eq_zero (by omega))
  · exact .inr (kept_of_own h (fun hb => hb.elim) 0 bs (by simp))
theorem PTxt.step {w w' : World} {A : Option Addr} {bs : List UInt8} (h : PTxt w A bs) (hm : Mod noB w w') : PTxt w' A bs :=
  h.elim .inl (fun h => .inr (h.step hm (fun _ h => h) (fun _ h => .inl h)))
theorem PTxt.str {w : World} {A : Option Addr} {bs : List UInt8} {n c : Nat} (h : PTxt w A bs) (hn : bs.length = n) : (convert 25 9 (.slice A n c)).run Try.prog w = .ok (.string ⟨bs.toArray⟩) w := by
  refine run_string_of (B := w.heap.size) 25 9 5 Try.underlying25 Try.underlying5 Try.underlying9 ?_ hn
  rcases h with rfl | h
  · exact Cells.nil _ _ _
  · exact h.cells

set_option maxRecDepth 100000 in
set_option maxHeartbeats 1000000 in
theorem same4_any (gd gm base : Nat) (S1 S2 : Nat → Prop) (now safe : List UInt8) (waits : List (Nat × List UInt8)) (w : World) (hb : Both w gd gm base S1 S2 now safe waits) :
    Calls Try.prog 7 #[.pointer (some ⟨gd, 0, none⟩), .pointer (some ⟨gm, 0, none⟩)] w fun e w' => e = .returned (.bool true) ∧ Mod noB w w' := by
  have hgood := hb.good
  obtain ⟨z, hz⟩ : ∃ z, now.length = 512 * z := ⟨now.length / 512, by have := hgood.m1; omega⟩
  have hz6 : z ≤ 4096 := by have := hgood.top; omega
  have HZ := Lib.hid hz
  have HTOP := Lib.hid hgood.top
  have hzw : IntKind.i64.wrap (512 * (z : Int)) = 512 * (z : Int) := IntWalk.i64_in _ (by omega)
  have hzn : (sectors now).length = z := by rw [sectors_length]; omega
  have HB := Lib.hid hb
  obtain ⟨A1, c1, A2, c2, A3, c3, A4, c4, hr, _⟩ := hb.rf
  have hblk := hr.blk
  rw [hzn] at hblk
  have HBLK := Lib.hid hblk
  have hgm : gm < w.heap.size := (Array.getElem?_eq_some_iff.1 hblk).1
  obtain ⟨r0, r1, r2, r3, _⟩ := hblk.cells
  clear hgood hz hr hblk hzn hb
  go_enter Try.func7, Try.ntmps7
  go_upto_region 2 with (go_at_call 16; refine (pread_z _ _ _ _ _ _ z _ HB.out.dk HTOP.out HZ.out).mono ?_; rintro e w6 ⟨A5, c5, rfl, hown, hb6⟩; have HT := Lib.hid (PTxt.of_own hown HZ.out); have HM6 := Lib.hid (Mod.of_below hb6); have HB6 := Lib.hid (HB.out.keep HM6.out); have HB6b := Lib.hid hb6; clear hown hb6)
  have HSK : Hid (∀ V : World, Mod noB w6 V → V.cell? ⟨gm, 0, none⟩ = some (.slice A1 z c1) ∧ V.cell? ⟨gm, 3, none⟩ = some (.slice A4 waits.length c4) ∧ (convert 25 9 (.slice A5 (512 * z) c5)).run Try.prog V = .ok (.string ⟨now.toArray⟩) V) := fun V hV => by
    have hk := RfB.cells (hV.keep ((HB6b.out.block gm hgm).trans HBLK.out) (fun h => h.elim))
    exact ⟨hk.1, hk.2.2.2.1, (HT.out.step hV).str (c := c5) HZ.out⟩
  have SK6 := HSK.out w6.drew (Mod.refl _ _).drew
  clear r0 r1 r2 r3
  go_region_held3 (fun V => V.cell? ⟨gm, 0, none⟩ = some (.slice A1 z c1) ∧ V.cell? ⟨gm, 3, none⟩ = some (.slice A4 waits.length c4) ∧ (convert 25 9 (.slice A5 (512 * z) c5)).run Try.prog V = .ok (.string ⟨now.toArray⟩) V) (first | exact SK6 | exact SK7)
    ((first
      | (go_at_call 9; refine (psize_z _ _ _ _ _ _ z _ (HB6.out.keep (Mod.refl _ _).drew).dk HTOP.out HZ.out).mono ?_; rintro e w' ⟨rfl, rfl⟩)
      | (go_at_call 10; refine (dwaiting_any _ _ _ _ _ _ _ (HB6.out.keep (Mod.refl _ _).drew).dk).mono ?_; rintro e w' ⟨rfl, rfl⟩)
      | (go_at_call 17; refine (pref_z _ _ _ _ _ _ z _ (HB6.out.keep (Mod.refl _ _).drew).rf HTOP.out HZ.out).mono ?_; rintro e w7 ⟨A7, c7, rfl, hown, hb7⟩; have HM7 : Hid (Mod noB w6 w7) := (Mod.refl noB w6).drew.then_ (Mod.of_below hb7); have HT7 := Lib.hid (PTxt.of_own hown HZ.out); have hst7 := HT7.out.str (c := c7) HZ.out; have SK7 := HSK.out w7 HM7.out; clear hown hb7)))
  go_wp2
  go_ret
  exact ⟨rfl, HM6.out.then_ HM7.out⟩
end Go.Proofs.Ytjedhemjojcekaa
