/- Layer 7: slices.SortFunc of no items. -/
import Derived.Test.YtbpgaaecifnohaaSymLen
import Derived.Test.YtbpgaaecifnohaaRows
import Derived.WalkKit
import Derived.WalkMore
import Derived.Lib.Hide
import Derived.Outline
import Derived.Deep.LoopGhost
import Derived.Test.YtbpgaaecifnohaaMgRunsPutsSWeiIt
import Derived.Test.YtbpgaaecifnohaaMgRunsPuts02
namespace Go.Proofs.Ytbpgaaecifnohaa
open Go.RowKit Go.Lib

set_option maxHeartbeats 1000000 in
theorem insNone_any (A : Option Addr) (c : Nat) (f : Value) (w : World) : Calls Try.prog 91 #[.slice A 0 c, .int .i64 0, .int .i64 0, f] w fun e w' => e = .returned (.tuple #[]) ∧ w = w' := by
  go_enter Try.func91, Try.ntmps91
  go_wp2
  go_loopg [8] 1 (fun gk i wr => i = .int .i64 1 ∧ wr = w)
  case atStart => exact ⟨rfl, rfl⟩
  case round =>
    obtain ⟨rfl, rfl⟩ := hrel
    go_wp2
    go_end0
    exact ⟨rfl, rfl⟩
set_option maxRecDepth 100000 in
set_option maxHeartbeats 1000000 in
theorem pdqNone_any (A : Option Addr) (c : Nat) (f : Value) (w : World) : Calls Try.prog 84 #[.slice A 0 c, .int .i64 0, .int .i64 0, .int .i64 0, f] w fun e w' => e = .returned (.tuple #[]) ∧ w = w' := by
  have H := Lib.hid (insNone_any A c f w)
  go_enter Try.func84, Try.ntmps84
  go_wp2
  go_loopg [1, 2] 1 (fun gk a b wr => a = .int .i64 0 ∧ b = .int .i64 0 ∧ wr = w)
  case atStart => exact ⟨rfl, rfl, rfl⟩
  case round =>
    obtain ⟨rfl, rfl, rfl⟩ := hrel
    go_wp2_with (go_at_call 91; refine H.out.mono ?_; rintro e w' ⟨rfl, rfl⟩)
    exact bodyPost_ret (results_none rfl _ _ _) rfl ⟨rfl, rfl⟩
theorem sortNone_any (A : Option Addr) (c : Nat) (f : Value) (w : World) : Calls Try.prog 73 #[.slice A 0 c, f] w fun e w' => e = .returned (.tuple #[]) ∧ w = w' := by
  have H := Lib.hid (pdqNone_any A c f w)
  have H2 : Hid (Calls Try.prog 85 #[.int .u64 0] w fun e w' => e = .returned (.int .i64 0) ∧ w = w') := (bits_Len 0 w (by omega) (by omega)).mono fun e w' ⟨h1, h2⟩ => ⟨h1.trans (congrArg Ending.returned (congrArg (Value.int IntKind.i64) (by rfl))), h2.symm⟩
  go_enter Try.func73, Try.ntmps73
  go_wp2_with (first
    | (go_at_call 85; refine H2.out.mono ?_; rintro e w' ⟨rfl, rfl⟩)
    | (go_at_call 84; refine H.out.mono ?_; rintro e w' ⟨rfl, rfl⟩))
  go_end0
  exact ⟨rfl, rfl⟩
end Go.Proofs.Ytbpgaaecifnohaa
/- Layer 7: slices.SortFunc of items. -/
namespace Go.Proofs.Ytbpgaaecifnohaa
open Go.RowKit Go.Lib Go.Shelf Go.Sort

theorem elAgg (w : World) : (isAgg 93).run Try.prog w = .ok true w := by kernel_rfl
theorem elSize (w : World) : (Go.sizeOf 93).run Try.prog w = .ok 4 w := by kernel_rfl
/-- An item: its weight, its symbol. -/
def itEn (x : Nat × Nat) : List Value := elC x.1 x.2 none none
def itCn (x y : Nat × Nat) : Int := itC ((x.1 : Int), (x.2 : Int)) ((y.1 : Int), (y.2 : Int))
theorem itLtN (x y : Nat × Nat) : ltOf itCn x y = decide (x.1 < y.1 ∨ x.1 = y.1 ∧ x.2 < y.2) := by
  have h := itLt ((x.1 : Int), (x.2 : Int)) ((y.1 : Int), (y.2 : Int))
  have e : ltOf itCn x y = ltOf itC ((x.1 : Int), (x.2 : Int)) ((y.1 : Int), (y.2 : Int)) := rfl
  rw [e, h, decide_eq_decide]
  dsimp only
  omega
theorem itSwoN : SWO (ltOf itCn) where
  irrefl x := by rw [itLtN]; simp
  trans x y z h1 h2 := by rw [itLtN] at *; simp at *; omega
  ntrans x y z h1 h2 := by rw [itLtN] at *; simp at *; omega
theorem itTotN (x y : Nat × Nat) (h1 : ltOf itCn x y = false) (h2 : ltOf itCn y x = false) : x = y := by
  rw [itLtN] at h1 h2
  simp at h1 h2
  exact Prod.ext (by omega) (by omega)
theorem itLays (blk off size : Nat) (w : World) : CmpLays Try.prog 74 #[] itEn 4 itCn blk off size w :=
  fun _ _ _ _ x y => itCmp_any ((x.1 : Int), (x.2 : Int)) ((y.1 : Int), (y.2 : Int)) _
theorem itSort_any (blk off cap : Nat) (d : Array (Nat × Nat)) (w : World) (hH : HoldsK itEn 4 w blk off d) (hblk : blk < w.heap.size) (hsz : d.size < 4611686018427387904) :
    Calls Try.prog 73 #[.slice (some ⟨blk, off, none⟩) d.size cap, .func (.func 74) #[] #[]] w fun e w' => e = .returned (.tuple #[]) ∧ ∃ d' n os, PermIn 0 d.size d d' ∧ SortedIn (ltOf itCn) 0 d.size d' ∧ w' = sortWorldK itEn 4 w blk off n d' os := by
  have eg : ∀ args w, (callFunc 74 args).run Try.prog w = .ok (.enter 74 args) w := enters_of Try.func74 (by kernel_rfl) rfl
  exact AnyQ.slices_SortFunc Try.sortEl 4 elAgg elSize itEn (fun _ => rfl) (fun x v hv => by simp [itEn, elC] at hv; rcases hv with rfl | rfl | rfl | rfl <;> rfl) itCn itSwoN 74 #[] blk off cap d w eg (itLays blk off d.size w) hH hblk hsz
/-- Items in their order. -/
def sortW (l : List (Nat × Nat)) : List (Nat × Nat) := l.mergeSort fun x y => !ltOf itCn y x
theorem sortW_perm (l : List (Nat × Nat)) : (sortW l).Perm l := List.mergeSort_perm _ _
theorem sortW_le (l : List (Nat × Nat)) : (sortW l).Pairwise fun x y => x.1 < y.1 ∨ x.1 = y.1 ∧ x.2 ≤ y.2 := by
  have h := List.pairwise_mergeSort (le := fun x y => !ltOf itCn y x) (fun a b c h1 h2 => by simp only [itLtN, Bool.not_eq_true', decide_eq_false_iff_not] at *; omega) (fun a b => by simp only [itLtN, Bool.or_eq_true, Bool.not_eq_true', decide_eq_false_iff_not]; omega) l
  refine h.imp fun {a b} hab => ?_
  simp only [itLtN, Bool.not_eq_true', decide_eq_false_iff_not] at hab
  omega
theorem sortW_uniq {l m : List (Nat × Nat)} (hp : m.Perm l) (hs : m.Pairwise fun x y => x.1 < y.1 ∨ x.1 = y.1 ∧ x.2 ≤ y.2) : m = sortW l :=
  List.Perm.eq_of_pairwise (le := fun x y => x.1 < y.1 ∨ x.1 = y.1 ∧ x.2 ≤ y.2) (fun a b _ _ h1 h2 => Prod.ext (by omega) (by omega)) hs (sortW_le l) (hp.trans (sortW_perm l).symm)
end Go.Proofs.Ytbpgaaecifnohaa
