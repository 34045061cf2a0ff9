/- Layer 10: Best; the chapter's example; the law MatchLens. -/
import Derived.Test.YtglbmghpkipipaaMaBest
import Derived.Lib.SmallJoins
namespace Go.Proofs.Ytglbmghpkipipaa
open Go.RowKit Go.Shelf

set_option maxHeartbeats 1000000 in
theorem Best_any (A : Option Addr) (l c : Nat) (bs : List UInt8) (a depth : Int) (w : World) (hl : bs.length = l) (hm : l ≤ 1099511627776) (hcap : l ≤ c) (hb : Bytes w w.heap.size A bs) (hdp : depth ≤ 9223372036854775807) (hdn : -9223372036854775808 ≤ depth) :
    Calls Try.prog 13 #[.slice A l c, .int .i64 a, .int .i64 depth] w fun e w' => e = .returned (.tuple #[.int .i64 ((bestM bs a depth).1 : Nat), .int .i64 ((bestM bs a depth).2 : Nat)]) ∧ Below w.heap.size w w' := by
  obtain ⟨W1, hW1⟩ : ∃ W1, (w.alloc (.cells #[.slice A l c] 22)).alloc (.cells #[.int .i64 a] 3) = W1 := ⟨_, rfl⟩
  have hz : W1.heap.size = w.heap.size + 2 := by rw [← hW1]; simp
  have hB1 : Below w.heap.size w W1 := by rw [← hW1]; exact ((Below.refl _ w).alloc (Nat.le_refl _) _).alloc (by simp) _
  have h1 : W1.heap[w.heap.size]? = some (.cells #[.slice A l c] 22) := by rw [← hW1]; exact alloc_keep (heap_alloc_new w _) _
  have h2 : W1.heap[w.heap.size + 1]? = some (.cells #[.int .i64 a] 3) := by
    rw [← hW1]
    have h := heap_alloc_new (w.alloc (.cells #[.slice A l c] 22)) (.cells #[.int .i64 a] 3)
    rwa [World.size_alloc] at h
  have HBE := Lib.hid (best_in 34 #[.pointer (some ⟨w.heap.size, 0, none⟩), .pointer (some ⟨w.heap.size + 1, 0, none⟩)] A l c bs a depth W1 hl hm ((hb.below hB1 (Nat.le_refl _)).more (by omega)) hdp hdn
    (enters_of Try.func34 (by kernel_rfl) rfl)
    (fun N W hN hBW hz2 => cand_seq (S3 N) W1.heap.size w.heap.size (w.heap.size + 1) A l c bs a W hl hm hcap ((hb.below (hB1.trans (hBW.mono (by omega))) (Nat.le_refl _)).more (by omega))
      (fun k hk => by rcases hk with rfl | rfl | rfl <;> omega) hBW.size ((hBW.block _ (by omega)).trans h1) ((hBW.block _ (by omega)).trans h2)))
  have HC := Lib.hid (candidates_any A l c a w)
  have HB1 := Lib.hid hB1
  rw [hW1] at HC
  clear hb hW1 hB1 h1 h2 hcap
  go_enter Try.func13, Try.ntmps13
  go_wp2_with (first
    | (go_at_call 26; refine HC.out.mono ?_; rintro e w' ⟨rfl, rfl⟩)
    | (go_at_call 25; refine HBE.out.mono ?_; rintro e w' ⟨rfl, hb2⟩; have HB2 := Lib.hid hb2; clear hb2))
  go_ret2
  exact ⟨rfl, HB1.out.trans (HB2.out.mono (by omega))⟩
theorem bestL : bestM [97, 98, 99, 97, 98, 99] 3 1 = (3, 3) := by decide
end Go.Proofs.Ytglbmghpkipipaa
