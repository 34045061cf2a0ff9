/- Layer 11: Split; the chapter's example. -/
import Derived.Test.YtdlikfefndogbaaTkApp
import Derived.Lib.SmallJoins
namespace Go.Proofs.Ytdlikfefndogbaa
open Go.RowKit Go.Shelf

theorem cells_of_own7 {w : World} {base : Nat} {e : TypeId} {size : Nat} {A : Option Addr} {n c : Nat} {xs : List Value} (h : w.ownsRow base e size (.slice A n c) n xs) : Cells w w.heap.size A xs := fun hp => by
  obtain ⟨hlen, hor⟩ := h
  rcases hor with ⟨h1, h2⟩ | ⟨g, cap, cur, hv, _, hg, _, _, hcells⟩
  · subst h2; rw [Nat.zero_mul] at hlen; omega
  · injection hv with ha _ _
    refine ⟨g, 0, ha, (Array.getElem?_eq_some_iff.1 hg).1, fun j u hj => ?_⟩
    rw [Nat.zero_add, cell_of_row w g j _ _ _ hg]
    obtain ⟨_, ht⟩ := hcells
    rw [← ht, List.getElem?_take] at hj
    split at hj
    · rw [← Array.getElem?_toList]; exact hj
    · cases hj
theorem toks_few (bs : List UInt8) (lv : Int) : (toks bs lv 0).length ≤ bs.length := by
  have := toks_len bs lv 0
  omega
set_option maxHeartbeats 1000000 in
theorem split_any (A : Option Addr) (l c : Nat) (bs : List UInt8) (lv : Int) (w : World) (hl : bs.length = l) (hm : l ≤ 4000) (hcap : l ≤ c) (hb : Bytes w w.heap.size A bs) :
    Calls Try.prog 9 #[.slice A l c, .int .i64 lv] w fun e w' => ∃ A' c', e = .returned (.slice A' (toks bs lv 0).length c') ∧ Cells w' w'.heap.size A' ((toks bs lv 0).map tkC).flatten ∧ Below w.heap.size w w' := by
  obtain ⟨W1, hW1⟩ : ∃ W1, (w.alloc (.cells #[.slice A l c] 22)).alloc (.cells #[.int .i64 lv] 3) = W1 := ⟨_, rfl⟩
  have hz : W1.heap.size = w.heap.size + 2 := by rw [← hW1]; simp
  have hB1 : Below w.heap.size w W1 := by rw [← hW1]; exact ((Below.refl _ w).alloc (Nat.le_refl _) _).alloc (by simp) _
  have h1 : W1.heap[w.heap.size]? = some (.cells #[.slice A l c] 22) := by rw [← hW1]; exact alloc_keep (heap_alloc_new w _) _
  have h2 : W1.heap[w.heap.size + 1]? = some (.cells #[.int .i64 lv] 3) := by
    rw [← hW1]
    have h := heap_alloc_new (w.alloc (.cells #[.slice A l c] 22)) (.cells #[.int .i64 lv] 3)
    rwa [World.size_alloc] at h
  have HC := Lib.hid (each_any A l c lv w)
  rw [hW1] at HC
  have HA := Lib.hid (appendSeq_any 28 #[.pointer (some ⟨w.heap.size, 0, none⟩), .pointer (some ⟨w.heap.size + 1, 0, none⟩)] (toks bs lv 0) (by have := toks_few bs lv; omega) W1 (enters_of Try.func28 (by kernel_rfl) rfl)
    (fun Z hZ hsz ho => each_seq W1.heap.size W1.heap.size w.heap.size (w.heap.size + 1) A l c bs lv Z hl hm hcap ((hb.below (hB1.trans (hZ.mono (by omega))) (Nat.le_refl _)).more (by omega)) hZ.size hsz (by omega) (by omega) ho ((hZ.block _ (by omega)).trans h1) ((hZ.block _ (by omega)).trans h2)))
  have HCO : Hid (Calls Try.prog 20 #[.func (.func 28) #[] #[.pointer (some ⟨w.heap.size, 0, none⟩), .pointer (some ⟨w.heap.size + 1, 0, none⟩)]] W1 fun e w' => ∃ v, e = .returned v ∧ w'.ownsRow W1.heap.size 36 3 v (toks bs lv 0).length ((toks bs lv 0).map tkC).flatten ∧ Below W1.heap.size W1 w') := by
    show Calls _ _ _ _ _
    generalize toks bs lv 0 = L at HA ⊢
    clear hb
    go_enter Try.func20, Try.ntmps20
    go_wp2_with (go_at_call 27; refine HA.out.mono ?_; rintro e w5 ⟨v, rfl, ho, hb⟩; have HO := Lib.hid ho; have HBB := Lib.hid hb; clear ho hb)
    go_ret
    exact ⟨v, rfl, HO.out, HBB.out⟩
  have HB1 := Lib.hid hB1
  have HZ := Lib.hid hz
  clear hW1 hB1 h1 h2 HA hz hb
  generalize toks bs lv 0 = L at HCO ⊢
  go_enter Try.func9, Try.ntmps9
  go_wp2_with (first
    | (go_at_call 21; refine HC.out.mono ?_; rintro e w' ⟨rfl, rfl⟩)
    | (go_at_call 20; refine HCO.out.mono ?_; rintro e w5 ⟨v, rfl, ho, hb⟩; have HO := Lib.hid ho; have HBB := Lib.hid hb; clear ho hb))
  go_ret
  obtain ⟨A', c', rfl⟩ := own_form' HO.out
  exact ⟨A', c', rfl, cells_of_own7 HO.out, HB1.out.trans (HBB.out.mono (by have := HZ.out; omega))⟩
theorem toksL : toks [97, 97, 97, 97] 0 0 = [(97, 0, 0), (0, 3, 1)] := by decide
set_option maxHeartbeats 1000000 in
theorem lives11_any (w : World) : Calls Try.prog 7 #[] w fun e w' => e = .returned (.bool true) ∧ Below w.heap.size w w' := by
  obtain ⟨W1, hW1⟩ : ∃ W1, w.alloc (.cells #[.int .u8 97, .int .u8 97, .int .u8 97, .int .u8 97] 5 (4, 5)) = W1 := ⟨_, rfl⟩
  have kc : (convert 22 22 (.slice (some ⟨w.heap.size, 0, none⟩) 4 4)).run Try.prog (w.alloc (.cells #[.int .u8 97, .int .u8 97, .int .u8 97, .int .u8 97] 5)) = .ok (.slice (some ⟨w.heap.size, 0, none⟩) 4 4) W1 := by
    rw [← hW1]
    exact Joins.run_convert_bytes_const_at (P := Try.prog) w 22 5 _ 4 4 w.heap.size rfl Try.underlying22 Try.underlying5
  have HBY : Hid (Bytes W1 (w.heap.size + 1) (some ⟨w.heap.size, 0, none⟩) [97, 97, 97, 97]) := by
    show Cells _ _ _ _
    rw [← hW1]
    exact bytes_new w 5 (4, 5) [97, 97, 97, 97] _ (by simp) w.heap.size (w.heap.size + 1) rfl (by omega)
  have HZ1 : Hid (W1.heap.size = w.heap.size + 1) := by show _ = _; rw [← hW1]; simp
  have HB1 : Hid (Below w.heap.size w W1) := by show Below _ _ _; rw [← hW1]; exact (Below.refl _ w).alloc (Nat.le_refl _) _
  clear hW1
  have HS := Lib.hid (split_any (some ⟨w.heap.size, 0, none⟩) 4 4 [97, 97, 97, 97] 0 W1 rfl (by decide) (by decide) (HBY.out.more (by have := HZ1.out; omega)))
  rw [toksL] at HS
  go_enter Try.func7, Try.ntmps7
  go_wp2_with (go_at_call 9; refine HS.out.mono ?_; rintro e w2 ⟨A2, c2, rfl, hcs, hb2⟩; obtain ⟨b2, o2, rfl, _, hc⟩ := hcs (by decide); have e0 : w2.cell? ⟨b2, o2, none⟩ = some (.int .u8 97) := hc 0 _ rfl; have e1 : w2.cell? ⟨b2, o2 + 1, none⟩ = some (.int .i64 0) := hc 1 _ rfl; have e2 : w2.cell? ⟨b2, o2 + 2, none⟩ = some (.int .i64 0) := hc 2 _ rfl; have e3 : w2.cell? ⟨b2, o2 + 3, none⟩ = some (.int .u8 0) := hc 3 _ rfl; have e4 : w2.cell? ⟨b2, o2 + 3 + 1, none⟩ = some (.int .i64 3) := hc 4 _ rfl; have e5 : w2.cell? ⟨b2, o2 + 3 + 2, none⟩ = some (.int .i64 1) := hc 5 _ rfl; have HB2 := Lib.hid hb2; clear hc hb2 hcs)
  go_ret
  exact ⟨rfl, HB1.out.trans (HB2.out.mono (by have := HZ1.out; omega))⟩
end Go.Proofs.Ytdlikfefndogbaa
