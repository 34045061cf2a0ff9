/- Layer 14: codec.Pieces of the bytes 0 0: no piece, and the end. -/
import Derived.Test.YtnccbnadfgilaaaRangeN
import Derived.Test.YtnccbnadfgilaaaKRead
import Derived.Test.YtnccbnadfgilaaaDc
import Derived.Lib.OthersKept
import Derived.Laws.RangeAny
namespace Go.Proofs.Ytnccbnadfgilaaa
open Go.RowKit Go.Shelf CrcP FieldP

theorem num_zz : RSt.num [0, 0] ⟨0, false⟩ 2 = (0, ⟨2, false⟩) := rfl
theorem row_zz : RSt.row [0, 0] ⟨2, false⟩ 0 = ([], ⟨2, false⟩) := rfl

set_option maxHeartbeats 1000000 in
theorem pieces_any (g : Nat) (w : World) :
    Calls Try.prog 44 #[.pointer (some ⟨g, 0, none⟩)] w fun e w' => e = .returned (.func (.func 54) #[] #[.pointer (some ⟨w.heap.size, 0, none⟩)]) ∧
      w.alloc (.cells #[.pointer (some ⟨g, 0, none⟩)] 61) = w' := by
  go_enter Try.func44, Try.ntmps44
  go_wp2
  go_ret
  exact ⟨rfl, rfl⟩

theorem only_undrew {g : Nat} {w w' : World} (h : Only g w.drew w') : Only g w w' := ⟨h.os, h.tape, h.output, h.size, h.block⟩
theorem only_trans' {g : Nat} {w w1 w2 : World} (h : Only g w w1) (h' : Only g w1 w2) : Only g w w2 := ⟨h'.os.trans h.os, h'.tape.trans h.tape, h'.output.trans h.output, Nat.le_trans h.size h'.size, fun k hk hne => (h'.block k (Nat.lt_of_lt_of_le hk h.size) hne).trans (h.block k hk hne)⟩
theorem bytes_only {g : Nat} {w w' : World} {A : Option Addr} {B : Nat} {bs : List UInt8} (hb : Bytes w B A bs) (h : Only g w w') (hB : B ≤ w.heap.size) (hg : B ≤ g) : Bytes w' B A bs :=
  Cells.below (B' := B) hb ⟨h.os, h.tape, h.output, h.size, fun k hk => h.block k (by omega) (by simp; omega)⟩ (Nat.le_refl _)

set_option maxRecDepth 100000 in
set_option maxHeartbeats 2000000 in
theorem pieces1_none (y : Value) (g bx : Nat) (A : Option Addr) (c B : Nat) (w : World) (hx : Box w bx #[.pointer (some ⟨g, 0, none⟩)] 61) (h : RdS w g A 2 c ⟨0, false⟩) (hc : 2 ≤ c)
    (hb : Bytes w B A [0, 0]) (hB : B ≤ w.heap.size) (hg : B ≤ g) (hgx : g ≠ bx) :
    Calls Try.prog 54 #[y, .pointer (some ⟨bx, 0, none⟩)] w fun e w' => e = .returned (.tuple #[]) ∧ RdS w' g A 2 c ⟨2, false⟩ ∧ Only g w w' := by
  have HX0 := Lib.hid hx
  have HR0 := Lib.hid h
  have HBY0 := Lib.hid hb
  have hx0 : w.drew.cell? ⟨bx, 0, none⟩ = some (.pointer (some ⟨g, 0, none⟩)) := hx.cell 0
  have HN : Hid (∀ W, RdS W g A 2 c ⟨0, false⟩ → Bytes W B A [0, 0] → Calls Try.prog 29 #[.pointer (some ⟨g, 0, none⟩), .int .i64 2] W fun e w' => e = .returned (.int .u32 0) ∧ RdS w' g A 2 c ⟨2, false⟩ ∧ Only g W w') := by
    intro W h1 h2
    have := number_st g A 2 c [0, 0] B ⟨0, false⟩ 2 2 W h1 rfl (by omega) (by decide) (by omega) (by omega) rfl h2
    rw [num_zz] at this
    exact this
  have HY : Hid (∀ W, RdS W g A 2 c ⟨2, false⟩ → Bytes W B A [0, 0] → B ≤ W.heap.size → Calls Try.prog 51 #[.pointer (some ⟨g, 0, none⟩), .int .i64 0] W fun e w' => ∃ A' k, e = .returned (.slice A' 0 k) ∧ RdS w' g A 2 c ⟨2, false⟩ ∧ Only g W w') := by
    intro W h1 h2 h3
    have := bytes_st g A 2 c [0, 0] B ⟨2, false⟩ 0 W h1 rfl (by omega) hc (by decide) h2 h3
    rw [row_zz] at this
    refine this.mono ?_
    rintro e w' ⟨A', m, k, rfl, ho, hr, hn⟩
    obtain rfl : m = 0 := by have := ho.1; simpa [byteCells] using this.symm
    exact ⟨A', k, rfl, hr, hn⟩
  have HND := Lib.hid (HN.out w.drew h hb.drew)
  have HXB : Hid (∀ W, Only g w W → W.cell? ⟨bx, 0, none⟩ = some (.pointer (some ⟨g, 0, none⟩))) := fun W hW => by
    have : Box W bx #[.pointer (some ⟨g, 0, none⟩)] 61 := (hW.block bx hx.lt (by simp; exact fun e => hgx e.symm)).trans hx
    exact this.cell 0
  have HBB : Hid (∀ W, Only g w W → Bytes W B A [0, 0] ∧ B ≤ W.heap.size) := fun W hW => ⟨bytes_only hb hW hB hg, Nat.le_trans hB hW.size⟩
  clear hx h hb hc
  go_enter Try.func54, Try.ntmps54
  go_wp2
  go_loopw [3] (fun _ wr => wr = w) (fun _ _ => 0)
  case atStart => exact rfl
  case round =>
    subst hrel
    go_wp2_with fail
    go_region_with (first
      | (go_at_call 29; refine HND.out.mono ?_; rintro e w1 ⟨rfl, hr1, hn1⟩; have HR1 := Lib.hid hr1; have HN1 := Lib.hid (only_undrew hn1); have k1 := HXB.out _ HN1.out; clear hr1 hn1)
      | (go_at_call 51; refine (HY.out _ HR1.out (HBB.out _ HN1.out).1 (HBB.out _ HN1.out).2).mono ?_; rintro e w2 ⟨A2, k2, rfl, hr2, hn2⟩; have HR2 := Lib.hid hr2; have HN2 := Lib.hid hn2; clear hr2 hn2))
    all_goals
      go_wp2
      exact bodyPost_ret (v := .tuple #[]) (by simp [results, Try.results54, go_sem]) rfl ⟨rfl, HR2.out, only_trans' HN1.out HN2.out⟩
end Go.Proofs.Ytnccbnadfgilaaa
