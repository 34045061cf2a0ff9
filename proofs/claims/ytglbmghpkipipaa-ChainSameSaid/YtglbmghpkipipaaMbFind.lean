/- Layer 10: Find of a finder. -/
import Derived.Test.YtglbmghpkipipaaMbIt
namespace Go.Proofs.Ytglbmghpkipipaa
open Go.RowKit Go.Shelf

theorem fbest_any (g g0 : Nat) (A : Option Addr) (l c : Nat) (bs : List UInt8) (a depth : Int) (W W2 : World) (hW2 : (W.alloc (.cells #[.pointer (some ⟨g, 0, none⟩)] 70)).alloc (.cells #[.int .i64 a] 3) = W2)
    (hl : bs.length = l) (hm : l ≤ 4000) (hb : Bytes W W.heap.size A bs) (hf : LF W g g0 A l c bs) (hdp : depth ≤ 9223372036854775807) (hdn : -9223372036854775808 ≤ depth) :
    Calls Try.prog 25 #[.slice A l c, .int .i64 a, .int .i64 depth, .func (.func 43) #[] #[.pointer (some ⟨W.heap.size, 0, none⟩), .pointer (some ⟨W.heap.size + 1, 0, none⟩)]] W2
      fun e w' => e = .returned (.tuple #[.int .i64 ((bestM bs a depth).1 : Nat), .int .i64 ((bestM bs a depth).2 : Nat)]) ∧ Below W.heap.size W w' := by
  have hz : W2.heap.size = W.heap.size + 2 := by rw [← hW2]; simp
  have hB1 : Below W.heap.size W W2 := by rw [← hW2]; exact ((Below.refl _ W).alloc (Nat.le_refl _) _).alloc (by simp) _
  have h1 : W2.heap[W.heap.size]? = some (.cells #[.pointer (some ⟨g, 0, none⟩)] 70) := by rw [← hW2]; exact alloc_keep (heap_alloc_new W _) _
  have h2 : W2.heap[W.heap.size + 1]? = some (.cells #[.int .i64 a] 3) := by
    rw [← hW2]
    have h := heap_alloc_new (W.alloc (.cells #[.pointer (some ⟨g, 0, none⟩)] 70)) (.cells #[.int .i64 a] 3)
    rwa [World.size_alloc] at h
  have hg := (Array.getElem?_eq_some_iff.1 hf.1).1
  have hg0 := (Array.getElem?_eq_some_iff.1 hf.2).1
  refine (best_in 43 #[.pointer (some ⟨W.heap.size, 0, none⟩), .pointer (some ⟨W.heap.size + 1, 0, none⟩)] A l c bs a depth W2 hl (by omega) ((hb.below hB1 (Nat.le_refl _)).more (by omega)) hdp hdn
    (enters_of Try.func43 (by kernel_rfl) rfl)
    (fun N Z hN hBZ hz2 => fcand_seq (S3 N) W2.heap.size W.heap.size (W.heap.size + 1) g g0 A l c bs a Z hl hm
      (fun k hk => by rcases hk with rfl | rfl | rfl <;> omega) (by omega) (by omega) ((hBZ.block _ (by omega)).trans h1) ((hBZ.block _ (by omega)).trans h2) ((hf.below hB1 hg hg0).below hBZ (by omega) (by omega)))).mono fun e w' h => ⟨h.1, hB1.trans (h.2.mono (by omega))⟩
set_option maxHeartbeats 400000 in
theorem find_nil (a depth : Int) (w : World) :
    Calls Try.prog 40 #[.pointer none, .int .i64 a, .int .i64 depth] w fun e w' => e = .returned (.tuple #[.int .i64 0, .int .i64 0]) ∧ w = w' := by
  go_enter Try.func40, Try.ntmps40
  go_wp2
  go_ret2
  exact ⟨rfl, rfl⟩
set_option maxRecDepth 100000 in
set_option maxHeartbeats 2000000 in
theorem find_any (g g0 : Nat) (A : Option Addr) (l c : Nat) (bs : List UInt8) (a depth : Int) (w : World) (hl : bs.length = l) (hm : l ≤ 4000) (hb : Bytes w w.heap.size A bs) (hf : LF w g g0 A l c bs) (hdp : depth ≤ 9223372036854775807) (hdn : -9223372036854775808 ≤ depth) :
    Calls Try.prog 40 #[.pointer (some ⟨g, 0, none⟩), .int .i64 a, .int .i64 depth] w
      fun e w' => e = .returned (.tuple #[.int .i64 ((bestM bs a depth).1 : Nat), .int .i64 ((bestM bs a depth).2 : Nat)]) ∧ Below w.heap.size w w' := by
  have c0 := cell_of_row w g 0 _ _ _ hf.1
  obtain ⟨W2, hW2⟩ : ∃ W2, (w.drew.alloc (.cells #[.pointer (some ⟨g, 0, none⟩)] 70)).alloc (.cells #[.int .i64 a] 3) = W2 := ⟨_, rfl⟩
  have HFC : Hid (Calls Try.prog 42 #[.pointer (some ⟨g, 0, none⟩), .int .i64 a] w.drew fun e w' => e = .returned (.func (.func 43) #[] #[.pointer (some ⟨w.heap.size, 0, none⟩), .pointer (some ⟨w.heap.size + 1, 0, none⟩)]) ∧ W2 = w') := by
    show Calls _ _ _ _ _
    rw [← hW2]
    exact fcandidates_any (some ⟨g, 0, none⟩) a w.drew
  have HBE := Lib.hid (fbest_any g g0 A l c bs a depth w.drew W2 hW2 hl hm hb hf hdp hdn)
  have c0W : w.drew.cell? ⟨g, 0, none⟩ = some (.slice A l c) := c0
  have c0W2 : W2.cell? ⟨g, 0, none⟩ = some (.slice A l c) := by rw [← hW2]; exact cell_alloc_l _ (cell_alloc_l _ c0W)
  clear hW2 hb hf
  go_enter Try.func40, Try.ntmps40
  go_wp2_with fail
  go_region_with (first
    | (go_at_call 42; refine HFC.out.mono ?_; rintro e w' ⟨rfl, rfl⟩)
    | (go_at_call 25; refine HBE.out.mono ?_; rintro e w5 ⟨rfl, hb5⟩))
  all_goals
    have HB5 : Hid (Below w.heap.size w w5) := (Below.drewN (Below.refl _ w) 1).trans hb5
    clear hb5
    go_wp2
    go_ret2
    exact ⟨rfl, HB5.out⟩
end Go.Proofs.Ytglbmghpkipipaa
