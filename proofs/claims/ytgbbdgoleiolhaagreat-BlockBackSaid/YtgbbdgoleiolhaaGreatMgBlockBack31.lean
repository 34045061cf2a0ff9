/- Layer 11: Split; the chapter's example. -/
import Derived.Test.YtgbbdgoleiolhaaGreatMgBlockBack30
import Derived.Lib.SmallJoins
import Derived.Test.YtgbbdgoleiolhaaGreatMgBlockBack14
import Derived.Test.YtgbbdgoleiolhaaGreatMgBlockBack10
namespace Go.Proofs.YtgbbdgoleiolhaaGreat
open Go.RowKit Go.Shelf

theorem cells_of_own7 {w : World} {base : Nat} {e : TypeId} {size : Nat} {A : Option Addr} {n c : Nat} {xs : List Value} (h : w.ownsRow base e size (.slice A n c) n xs) : Cells w w.heap.size A xs := fun hp => by
  obtain ⟨hlen, hor⟩ := h
  rcases hor with ⟨h1, h2⟩ | ⟨g, cap, cur, hv, _, hg, _, _, hcells⟩
  · subst h2; rw [Nat.zero_mul] at hlen; omega
  · injection hv with ha _ _
    refine ⟨g, 0, ha, (Array.getElem?_eq_some_iff.1 hg).1, fun j u hj => ?_⟩
    rw [Nat.zero_add, cell_of_row w g j _ _ _ hg]
    obtain ⟨_, ht⟩ := hcells
    rw [← ht, List.getElem?_take] at hj
    split at hj
    · rw [← Array.getElem?_toList]; exact hj
    · cases hj
theorem toks_few (bs : List UInt8) (lv : Int) : (toks bs lv 0).length ≤ bs.length := by
  have := toks_len bs lv 0
  omega
set_option maxHeartbeats 1000000 in
theorem split_any (A : Option Addr) (l c : Nat) (bs : List UInt8) (lv : Int) (w : World) (hl : bs.length = l) (hm : l ≤ 4000) (hcap : l ≤ c) (hb : Bytes w w.heap.size A bs) :
    Calls Tryz.prog 20 #[.slice A l c, .int .i64 lv] w fun e w' => ∃ A' c', e = .returned (.slice A' (toks bs lv 0).length c') ∧ Cells w' w'.heap.size A' ((toks bs lv 0).map tkC).flatten ∧ Below w.heap.size w w' := by
  obtain ⟨W1, hW1⟩ : ∃ W1, (w.alloc (.cells #[.slice A l c] 24)).alloc (.cells #[.int .i64 lv] 3) = W1 := ⟨_, rfl⟩
  have hz : W1.heap.size = w.heap.size + 2 := by rw [← hW1]; simp
  have hB1 : Below w.heap.size w W1 := by rw [← hW1]; exact ((Below.refl _ w).alloc (Nat.le_refl _) _).alloc (by simp) _
  have h1 : W1.heap[w.heap.size]? = some (.cells #[.slice A l c] 24) := by rw [← hW1]; exact alloc_keep (heap_alloc_new w _) _
  have h2 : W1.heap[w.heap.size + 1]? = some (.cells #[.int .i64 lv] 3) := by
    rw [← hW1]
    have h := heap_alloc_new (w.alloc (.cells #[.slice A l c] 24)) (.cells #[.int .i64 lv] 3)
    rwa [World.size_alloc] at h
  have HC := Lib.hid (each_any A l c lv w)
  rw [hW1] at HC
  have HA := Lib.hid (appendSeqT_any 71 #[.pointer (some ⟨w.heap.size, 0, none⟩), .pointer (some ⟨w.heap.size + 1, 0, none⟩)] (toks bs lv 0) (by have := toks_few bs lv; omega) W1 (enters_of Tryz.func71 (by kernel_rfl) rfl)
    (fun Z hZ hsz ho => each_seq W1.heap.size W1.heap.size w.heap.size (w.heap.size + 1) A l c bs lv Z hl hm hcap ((hb.below (hB1.trans (hZ.mono (by omega))) (Nat.le_refl _)).more (by omega)) hZ.size hsz (by omega) (by omega) ho ((hZ.block _ (by omega)).trans h1) ((hZ.block _ (by omega)).trans h2)))
  have HCO : Hid (Calls Tryz.prog 42 #[.func (.func 71) #[] #[.pointer (some ⟨w.heap.size, 0, none⟩), .pointer (some ⟨w.heap.size + 1, 0, none⟩)]] W1 fun e w' => ∃ v, e = .returned v ∧ w'.ownsRow W1.heap.size 52 3 v (toks bs lv 0).length ((toks bs lv 0).map tkC).flatten ∧ Below W1.heap.size W1 w') := by
    show Calls _ _ _ _ _
    generalize toks bs lv 0 = L at HA ⊢
    clear hb
    go_enter Tryz.func42, Tryz.ntmps42
    go_wp2_with (go_at_call 70; refine HA.out.mono ?_; rintro e w5 ⟨v, rfl, ho, hb⟩; have HO := Lib.hid ho; have HBB := Lib.hid hb; clear ho hb)
    go_ret
    exact ⟨v, rfl, HO.out, HBB.out⟩
  have HB1 := Lib.hid hB1
  have HZ := Lib.hid hz
  clear hW1 hB1 h1 h2 HA hz hb
  generalize toks bs lv 0 = L at HCO ⊢
  go_enter Tryz.func20, Tryz.ntmps20
  go_wp2_with (first
    | (go_at_call 43; refine HC.out.mono ?_; rintro e w' ⟨rfl, rfl⟩)
    | (go_at_call 42; refine HCO.out.mono ?_; rintro e w5 ⟨v, rfl, ho, hb⟩; have HO := Lib.hid ho; have HBB := Lib.hid hb; clear ho hb))
  go_ret
  obtain ⟨A', c', rfl⟩ := own_form' HO.out
  exact ⟨A', c', rfl, cells_of_own7 HO.out, HB1.out.trans (HBB.out.mono (by have := HZ.out; omega))⟩
theorem toksL : toks [97, 97, 97, 97] 0 0 = [(97, 0, 0), (0, 3, 1)] := by decide
end Go.Proofs.YtgbbdgoleiolhaaGreat
/- Layer 11: the reference's Depth and Split. -/
namespace Go.Proofs.YtgbbdgoleiolhaaGreat
open Go.RowKit Go.Shelf

end Go.Proofs.YtgbbdgoleiolhaaGreat
/- Layer 11: the law TokensSplits. -/
namespace Go.Proofs.YtgbbdgoleiolhaaGreat
open Go.RowKit Go.Shelf

theorem tkC_len (L : List Tk) : ∀ r ∈ L, (tkC r).length = 3 := fun _ _ => rfl
set_option maxRecDepth 100000 in
set_option maxHeartbeats 2000000 in
theorem same_any (A1 A2 : Option Addr) (l c1 c2 B1 B2 : Nat) (L : List Tk) (w : World) (hl : L.length = l) (hm : l ≤ 100000) (h1 : Cells w B1 A1 (L.map tkC).flatten) (h2 : Cells w B2 A2 (L.map tkC).flatten) :
    Calls Tryz.prog 18 #[.slice A1 l c1, .slice A2 l c2] w fun e w' => e = .returned (.bool true) ∧ Below w.heap.size w w' := by
  have H1 := Lib.hid h1
  have H2 := Lib.hid h2
  have HL := Lib.hid hl
  clear h1 h2 hl
  go_enter Tryz.func18, Tryz.ntmps18
  go_wp2
  go_loopg [5] l (fun gk i wr => ∃ k m : Nat, k + gk = l ∧ i = .int .i64 k ∧ wr = w.drewN m)
  case atStart => exact ⟨0, 0, by omega, rfl, rfl⟩
  case round =>
    obtain ⟨k, m, hk, rfl, rfl⟩ := hrel
    by_cases h : k < l
    · obtain ⟨⟨tb, tn, td⟩, ht⟩ : ∃ t, L[k]? = some t := ⟨_, List.getElem?_eq_getElem (by have := HL.out; omega)⟩
      have hlen : ∀ j, j < 3 → k * 3 + j < (L.map tkC).flatten.length := fun j hj => by
        obtain ⟨u, hu⟩ : ∃ u, (tkC (tb, tn, td))[j]? = some u := ⟨_, List.getElem?_eq_getElem hj⟩
        exact (List.getElem?_eq_some_iff.1 (code_at (tkC_len L) ht hu)).1
      have h0 := hlen 0 (by omega)
      obtain ⟨b, o, rfl, _, hc⟩ := H1.out (by omega)
      obtain ⟨b2, o2, rfl, _, hc2⟩ := H2.out (by omega)
      have e0 : w.cell? ⟨b, o + k * 3, none⟩ = some (.int .u8 (tb.toNat : Int)) := hc (k * 3 + 0) _ (code_at (tkC_len L) ht rfl)
      have e1 : w.cell? ⟨b, o + k * 3 + 1, none⟩ = some (.int .i64 (tn : Int)) := hc (k * 3 + 1) _ (code_at (tkC_len L) ht rfl)
      have e2 : w.cell? ⟨b, o + k * 3 + 2, none⟩ = some (.int .i64 (td : Int)) := hc (k * 3 + 2) _ (code_at (tkC_len L) ht rfl)
      have g0 : w.cell? ⟨b2, o2 + k * 3, none⟩ = some (.int .u8 (tb.toNat : Int)) := hc2 (k * 3 + 0) _ (code_at (tkC_len L) ht rfl)
      have g1 : w.cell? ⟨b2, o2 + k * 3 + 1, none⟩ = some (.int .i64 (tn : Int)) := hc2 (k * 3 + 1) _ (code_at (tkC_len L) ht rfl)
      have g2 : w.cell? ⟨b2, o2 + k * 3 + 2, none⟩ = some (.int .i64 (td : Int)) := hc2 (k * 3 + 2) _ (code_at (tkC_len L) ht rfl)
      clear hc hc2 ht hlen h0
      go_wp2_with fail
      go_quiet (fail)
      go_wp2
      go_roundg (gk - 1)
      case measure => omega
      case rel => exact ⟨k + 1, m + nq, by omega, by go_num, by simp⟩
    · obtain rfl : k = l := by omega
      go_wp2
      go_ret
      exact ⟨rfl, Below.drewN (Below.refl _ w) m⟩
end Go.Proofs.YtgbbdgoleiolhaaGreat
