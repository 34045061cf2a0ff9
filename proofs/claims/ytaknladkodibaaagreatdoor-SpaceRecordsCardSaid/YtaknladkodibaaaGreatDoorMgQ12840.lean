/- Layer 11: Split; the chapter's example. -/
import Derived.Test.YtaknladkodibaaaGreatDoorMgQ12835
import Derived.Lib.SmallJoins
import Derived.Test.YtaknladkodibaaaGreatDoorMgQ12816
import Derived.Test.YtaknladkodibaaaGreatDoorMgQ12810
namespace Go.Proofs.YtaknladkodibaaaGreatDoor
open Go.RowKit Go.Shelf

theorem cells_of_own7 {w : World} {base : Nat} {e : TypeId} {size : Nat} {A : Option Addr} {n c : Nat} {xs : List Value} (h : w.ownsRow base e size (.slice A n c) n xs) : Cells w w.heap.size A xs := fun hp => by
  obtain ⟨hlen, hor⟩ := h
  rcases hor with ⟨h1, h2⟩ | ⟨g, cap, cur, hv, _, hg, _, _, hcells⟩
  · subst h2; rw [Nat.zero_mul] at hlen; omega
  · injection hv with ha _ _
    refine ⟨g, 0, ha, (Array.getElem?_eq_some_iff.1 hg).1, fun j u hj => ?_⟩
    rw [Nat.zero_add, cell_of_row w g j _ _ _ hg]
    obtain ⟨_, ht⟩ := hcells
    rw [← ht, List.getElem?_take] at hj
    split at hj
    · rw [← Array.getElem?_toList]; exact hj
    · cases hj
theorem toks_few (bs : List UInt8) (lv : Int) : (toks bs lv 0).length ≤ bs.length := by
  have := toks_len bs lv 0
  omega
set_option maxHeartbeats 1000000 in
theorem split_any (A : Option Addr) (l c : Nat) (bs : List UInt8) (lv : Int) (w : World) (hl : bs.length = l) (hm : l ≤ 32000) (hcap : l ≤ c) (hb : Bytes w w.heap.size A bs) :
    Calls Tryz.prog 66 #[.slice A l c, .int .i64 lv] w fun e w' => ∃ A' c', e = .returned (.slice A' (toks bs lv 0).length c') ∧ Cells w' w'.heap.size A' ((toks bs lv 0).map tkC).flatten ∧ Below w.heap.size w w' := by
  obtain ⟨W1, hW1⟩ : ∃ W1, (w.alloc (.cells #[.slice A l c] 25)).alloc (.cells #[.int .i64 lv] 3) = W1 := ⟨_, rfl⟩
  have hz : W1.heap.size = w.heap.size + 2 := by rw [← hW1]; simp
  have hB1 : Below w.heap.size w W1 := by rw [← hW1]; exact ((Below.refl _ w).alloc (Nat.le_refl _) _).alloc (by simp) _
  have h1 : W1.heap[w.heap.size]? = some (.cells #[.slice A l c] 25) := by rw [← hW1]; exact alloc_keep (heap_alloc_new w _) _
  have h2 : W1.heap[w.heap.size + 1]? = some (.cells #[.int .i64 lv] 3) := by
    rw [← hW1]
    have h := heap_alloc_new (w.alloc (.cells #[.slice A l c] 25)) (.cells #[.int .i64 lv] 3)
    rwa [World.size_alloc] at h
  have HC := Lib.hid (each_any A l c lv w)
  rw [hW1] at HC
  have HA := Lib.hid (appendSeqT_any 159 #[.pointer (some ⟨w.heap.size, 0, none⟩), .pointer (some ⟨w.heap.size + 1, 0, none⟩)] (toks bs lv 0) (by have := toks_few bs lv; omega) W1 (enters_of Tryz.func159 (by kernel_rfl) rfl)
    (fun Z hZ hsz ho => each_seq W1.heap.size W1.heap.size w.heap.size (w.heap.size + 1) A l c bs lv Z hl hm hcap ((hb.below (hB1.trans (hZ.mono (by omega))) (Nat.le_refl _)).more (by omega)) hZ.size hsz (by omega) (by omega) ho ((hZ.block _ (by omega)).trans h1) ((hZ.block _ (by omega)).trans h2)))
  have HCO : Hid (Calls Tryz.prog 112 #[.func (.func 159) #[] #[.pointer (some ⟨w.heap.size, 0, none⟩), .pointer (some ⟨w.heap.size + 1, 0, none⟩)]] W1 fun e w' => ∃ v, e = .returned v ∧ w'.ownsRow W1.heap.size 164 3 v (toks bs lv 0).length ((toks bs lv 0).map tkC).flatten ∧ Below W1.heap.size W1 w') := by
    show Calls _ _ _ _ _
    generalize toks bs lv 0 = L at HA ⊢
    clear hb
    go_enter Tryz.func112, Tryz.ntmps112
    go_wp2_with (go_at_call 158; refine HA.out.mono ?_; rintro e w5 ⟨v, rfl, ho, hb⟩; have HO := Lib.hid ho; have HBB := Lib.hid hb; clear ho hb)
    go_ret
    exact ⟨v, rfl, HO.out, HBB.out⟩
  have HB1 := Lib.hid hB1
  have HZ := Lib.hid hz
  clear hW1 hB1 h1 h2 HA hz hb
  generalize toks bs lv 0 = L at HCO ⊢
  go_enter Tryz.func66, Tryz.ntmps66
  go_wp2_with (first
    | (go_at_call 113; refine HC.out.mono ?_; rintro e w' ⟨rfl, rfl⟩)
    | (go_at_call 112; refine HCO.out.mono ?_; rintro e w5 ⟨v, rfl, ho, hb⟩; have HO := Lib.hid ho; have HBB := Lib.hid hb; clear ho hb))
  go_ret
  obtain ⟨A', c', rfl⟩ := own_form' HO.out
  exact ⟨A', c', rfl, cells_of_own7 HO.out, HB1.out.trans (HBB.out.mono (by have := HZ.out; omega))⟩
end Go.Proofs.YtaknladkodibaaaGreatDoor
/- Layer 11: the reference's Depth and Split. -/
namespace Go.Proofs.YtaknladkodibaaaGreatDoor
open Go.RowKit Go.Shelf

end Go.Proofs.YtaknladkodibaaaGreatDoor
/- Layer 11: the law TokensSplits. -/
namespace Go.Proofs.YtaknladkodibaaaGreatDoor
open Go.RowKit Go.Shelf

theorem tkC_len (L : List Tk) : ∀ r ∈ L, (tkC r).length = 3 := fun _ _ => rfl
end Go.Proofs.YtaknladkodibaaaGreatDoor
