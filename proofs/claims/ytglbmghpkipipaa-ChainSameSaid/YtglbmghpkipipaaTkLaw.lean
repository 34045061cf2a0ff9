/- Layer 11: the law TokensSplits. -/
import Derived.Test.YtglbmghpkipipaaTkRef
import Derived.Test.YtglbmghpkipipaaLists
namespace Go.Proofs.Ytglbmghpkipipaa
open Go.RowKit Go.Shelf

theorem tkC_len (L : List Tk) : ∀ r ∈ L, (tkC r).length = 3 := fun _ _ => rfl
set_option maxRecDepth 100000 in
set_option maxHeartbeats 2000000 in
theorem same_any (A1 A2 : Option Addr) (l c1 c2 B1 B2 : Nat) (L : List Tk) (w : World) (hl : L.length = l) (hm : l ≤ 100000) (h1 : Cells w B1 A1 (L.map tkC).flatten) (h2 : Cells w B2 A2 (L.map tkC).flatten) :
    Calls Try.prog 10 #[.slice A1 l c1, .slice A2 l c2] w fun e w' => e = .returned (.bool true) ∧ Below w.heap.size w w' := by
  have H1 := Lib.hid h1
  have H2 := Lib.hid h2
  have HL := Lib.hid hl
  clear h1 h2 hl
  go_enter Try.func10, Try.ntmps10
  go_wp2
  go_loopg [5] l (fun gk i wr => ∃ k m : Nat, k + gk = l ∧ i = .int .i64 k ∧ wr = w.drewN m)
  case atStart => exact ⟨0, 0, by omega, rfl, rfl⟩
  case round =>
    obtain ⟨k, m, hk, rfl, rfl⟩ := hrel
    by_cases h : k < l
    · obtain ⟨⟨tb, tn, td⟩, ht⟩ : ∃ t, L[k]? = some t := ⟨_, List.getElem?_eq_getElem (by have := HL.out; omega)⟩
      have hlen : ∀ j, j < 3 → k * 3 + j < (L.map tkC).flatten.length := fun j hj => by
        obtain ⟨u, hu⟩ : ∃ u, (tkC (tb, tn, td))[j]? = some u := ⟨_, List.getElem?_eq_getElem hj⟩
        exact (List.getElem?_eq_some_iff.1 (code_at (tkC_len L) ht hu)).1
      have h0 := hlen 0 (by omega)
      obtain ⟨b, o, rfl, _, hc⟩ := H1.out (by omega)
      obtain ⟨b2, o2, rfl, _, hc2⟩ := H2.out (by omega)
      have e0 : w.cell? ⟨b, o + k * 3, none⟩ = some (.int .u8 (tb.toNat : Int)) := hc (k * 3 + 0) _ (code_at (tkC_len L) ht rfl)
      have e1 : w.cell? ⟨b, o + k * 3 + 1, none⟩ = some (.int .i64 (tn : Int)) := hc (k * 3 + 1) _ (code_at (tkC_len L) ht rfl)
      have e2 : w.cell? ⟨b, o + k * 3 + 2, none⟩ = some (.int .i64 (td : Int)) := hc (k * 3 + 2) _ (code_at (tkC_len L) ht rfl)
      have g0 : w.cell? ⟨b2, o2 + k * 3, none⟩ = some (.int .u8 (tb.toNat : Int)) := hc2 (k * 3 + 0) _ (code_at (tkC_len L) ht rfl)
      have g1 : w.cell? ⟨b2, o2 + k * 3 + 1, none⟩ = some (.int .i64 (tn : Int)) := hc2 (k * 3 + 1) _ (code_at (tkC_len L) ht rfl)
      have g2 : w.cell? ⟨b2, o2 + k * 3 + 2, none⟩ = some (.int .i64 (td : Int)) := hc2 (k * 3 + 2) _ (code_at (tkC_len L) ht rfl)
      clear hc hc2 ht hlen h0
      go_wp2_with fail
      go_quiet (fail)
      go_wp2
      go_roundg (gk - 1)
      case measure => omega
      case rel => exact ⟨k + 1, m + nq, by omega, by go_num, by simp⟩
    · obtain rfl : k = l := by omega
      go_wp2
      go_ret
      exact ⟨rfl, Below.drewN (Below.refl _ w) m⟩
end Go.Proofs.Ytglbmghpkipipaa
