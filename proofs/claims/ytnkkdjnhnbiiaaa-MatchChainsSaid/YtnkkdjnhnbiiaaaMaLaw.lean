/- Layer 10: Best; the chapter's example; the law MatchLens. -/
import Derived.Test.YtnkkdjnhnbiiaaaMaBest
import Derived.Lib.SmallJoins
namespace Go.Proofs.Ytnkkdjnhnbiiaaa
open Go.RowKit Go.Shelf

set_option maxHeartbeats 1000000 in
theorem Best_any (A : Option Addr) (l c : Nat) (bs : List UInt8) (a depth : Int) (w : World) (hl : bs.length = l) (hm : l ≤ 1099511627776) (hcap : l ≤ c) (hb : Bytes w w.heap.size A bs) (hdp : depth ≤ 9223372036854775807) (hdn : -9223372036854775808 ≤ depth) :
    Calls Try.prog 12 #[.slice A l c, .int .i64 a, .int .i64 depth] w fun e w' => e = .returned (.tuple #[.int .i64 ((bestM bs a depth).1 : Nat), .int .i64 ((bestM bs a depth).2 : Nat)]) ∧ Below w.heap.size w w' := by
  obtain ⟨W1, hW1⟩ : ∃ W1, (w.alloc (.cells #[.slice A l c] 22)).alloc (.cells #[.int .i64 a] 3) = W1 := ⟨_, rfl⟩
  have hz : W1.heap.size = w.heap.size + 2 := by rw [← hW1]; simp
  have hB1 : Below w.heap.size w W1 := by rw [← hW1]; exact ((Below.refl _ w).alloc (Nat.le_refl _) _).alloc (by simp) _
  have h1 : W1.heap[w.heap.size]? = some (.cells #[.slice A l c] 22) := by rw [← hW1]; exact alloc_keep (heap_alloc_new w _) _
  have h2 : W1.heap[w.heap.size + 1]? = some (.cells #[.int .i64 a] 3) := by
    rw [← hW1]
    have h := heap_alloc_new (w.alloc (.cells #[.slice A l c] 22)) (.cells #[.int .i64 a] 3)
    rwa [World.size_alloc] at h
  have HBE := Lib.hid (best_in 21 #[.pointer (some ⟨w.heap.size, 0, none⟩), .pointer (some ⟨w.heap.size + 1, 0, none⟩)] A l c bs a depth W1 hl hm ((hb.below hB1 (Nat.le_refl _)).more (by omega)) hdp hdn
    (enters_of Try.func21 (by kernel_rfl) rfl)
    (fun N W hN hBW hz2 => cand_seq (S3 N) W1.heap.size w.heap.size (w.heap.size + 1) A l c bs a W hl hm hcap ((hb.below (hB1.trans (hBW.mono (by omega))) (Nat.le_refl _)).more (by omega))
      (fun k hk => by rcases hk with rfl | rfl | rfl <;> omega) hBW.size ((hBW.block _ (by omega)).trans h1) ((hBW.block _ (by omega)).trans h2)))
  have HC := Lib.hid (candidates_any A l c a w)
  have HB1 := Lib.hid hB1
  rw [hW1] at HC
  clear hb hW1 hB1 h1 h2 hcap
  go_enter Try.func12, Try.ntmps12
  go_wp2_with (first
    | (go_at_call 18; refine HC.out.mono ?_; rintro e w' ⟨rfl, rfl⟩)
    | (go_at_call 16; refine HBE.out.mono ?_; rintro e w' ⟨rfl, hb2⟩; have HB2 := Lib.hid hb2; clear hb2))
  go_ret2
  exact ⟨rfl, HB1.out.trans (HB2.out.mono (by omega))⟩
theorem bestL : bestM [97, 98, 99, 97, 98, 99] 3 1 = (3, 3) := by decide
set_option maxHeartbeats 1000000 in
theorem lives10_any (w : World) : Calls Try.prog 7 #[] w fun e w' => e = .returned (.bool true) ∧ Below w.heap.size w w' := by
  have kc := fun (C : Array Value) (n c : Nat) => Joins.run_convert_bytes_const_at (P := Try.prog) w 22 5 C n c w.heap.size rfl Try.underlying22 Try.underlying5
  have HBE := Lib.hid (fun (W : World) (h : Bytes W W.heap.size (some ⟨w.heap.size, 0, none⟩) [97, 98, 99, 97, 98, 99]) => Best_any (some ⟨w.heap.size, 0, none⟩) 6 6 [97, 98, 99, 97, 98, 99] 3 1 W rfl (by decide) (by decide) h (by decide) (by decide))
  rw [bestL] at HBE
  have HBY := Lib.hid (fun (C : Array Value) (hC : C = (([97, 98, 99, 97, 98, 99] : List UInt8).map fun x => Value.int .u8 (x.toNat : Int)).toArray) => bytes_new w 5 (6, 7) [97, 98, 99, 97, 98, 99] C hC w.heap.size (w.heap.size + 1) rfl (by omega))
  go_enter Try.func7, Try.ntmps7
  go_wp2_with (go_at_call 12; refine (HBE.out _ ((HBY.out _ (by simp)).more (by simp))).mono ?_; rintro e w' ⟨rfl, hb2⟩; have HB2 := Lib.hid hb2; clear hb2)
  go_ret
  exact ⟨rfl, ((Below.refl _ w).alloc (Nat.le_refl _) _).trans (HB2.out.mono (by simp))⟩
set_option maxHeartbeats 1000000 in
theorem mlens_any (A : Option Addr) (l c : Nat) (bs : List UInt8) (a d : Int) (w : World) (hl : bs.length = l) (hb : Bytes w w.heap.size A bs) :
    Calls Try.prog 3 #[.slice A l c, .int .i64 a, .int .i64 d] w fun e w' => e = .returned (.bool true) ∧ Below w.heap.size w w' := by
  have HLV := Lib.hid (fun W : World => lives10_any W)
  by_cases h : 3000 < l
  · have hd : decide ((3000 : Int) < (l : Int)) = true := decide_eq_true (by omega)
    clear h hb
    go_enter Try.func3, Try.ntmps3
    go_wp2_with (go_at_call 7; refine (HLV.out _).mono ?_; rintro e w' ⟨rfl, hb2⟩; have HB2 := Lib.hid hb2; clear hb2)
    go_ret
    exact ⟨rfl, HB2.out⟩
  · have hd : decide ((3000 : Int) < (l : Int)) = false := decide_eq_false (by omega)
    have H1 := Lib.hid (fun m : Nat => mlen_any A l c bs w.heap.size a d (w.drewN m) hl (by omega) hb)
    have H2 := Lib.hid (fun m : Nat => rlen_any A l c bs w.heap.size a d (w.drewN m) hl (by omega) hb)
    have hq : ((lenI bs a d : Int) == (lenI bs a d : Int)) = true := by simp
    clear h hb
    go_enter Try.func3, Try.ntmps3
    go_wp2_with (first
      | (go_at_call 8; refine (H1.out 0).mono ?_; rintro e w' ⟨rfl, m1, rfl⟩)
      | (go_at_call 9; refine (H2.out m1).mono ?_; rintro e w' ⟨rfl, m2, rfl⟩)
      | (go_at_call 7; refine (HLV.out _).mono ?_; rintro e w' ⟨rfl, hb2⟩; have HB2 := Lib.hid hb2; clear hb2))
    go_ret
    exact ⟨rfl, (Below.drewN (Below.refl _ w) (m1 + m2)).trans HB2.out⟩
end Go.Proofs.Ytnkkdjnhnbiiaaa
