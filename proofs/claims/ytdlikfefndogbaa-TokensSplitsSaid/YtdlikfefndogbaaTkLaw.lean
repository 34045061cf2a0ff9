/- Layer 11: the law TokensSplits. -/
import Derived.Test.YtdlikfefndogbaaTkRef
import Derived.Test.YtdlikfefndogbaaLists
namespace Go.Proofs.Ytdlikfefndogbaa
open Go.RowKit Go.Shelf

theorem tkC_len (L : List Tk) : ∀ r ∈ L, (tkC r).length = 3 := fun _ _ => rfl
set_option maxRecDepth 100000 in
set_option maxHeartbeats 2000000 in
theorem same_any (A1 A2 : Option Addr) (l c1 c2 B1 B2 : Nat) (L : List Tk) (w : World) (hl : L.length = l) (hm : l ≤ 100000) (h1 : Cells w B1 A1 (L.map tkC).flatten) (h2 : Cells w B2 A2 (L.map tkC).flatten) :
    Calls Try.prog 8 #[.slice A1 l c1, .slice A2 l c2] w fun e w' => e = .returned (.bool true) ∧ Below w.heap.size w w' := by
  have H1 := Lib.hid h1
  have H2 := Lib.hid h2
  have HL := Lib.hid hl
  clear h1 h2 hl
  go_enter Try.func8, Try.ntmps8
  go_wp2
  go_loopg [5] l (fun gk i wr => ∃ k m : Nat, k + gk = l ∧ i = .int .i64 k ∧ wr = w.drewN m)
  case atStart => exact ⟨0, 0, by omega, rfl, rfl⟩
  case round =>
    obtain ⟨k, m, hk, rfl, rfl⟩ := hrel
    by_cases h : k < l
    · obtain ⟨⟨tb, tn, td⟩, ht⟩ : ∃ t, L[k]? = some t := ⟨_, List.getElem?_eq_getElem (by have := HL.out; omega)⟩
      have hlen : ∀ j, j < 3 → k * 3 + j < (L.map tkC).flatten.length := fun j hj => by
        obtain ⟨u, hu⟩ : ∃ u, (tkC (tb, tn, td))[j]? = some u := ⟨_, List.getElem?_eq_getElem hj⟩
        exact (List.getElem?_eq_some_iff.1 (code_at (tkC_len L) ht hu)).1
      have h0 := hlen 0 (by omega)
      obtain ⟨b, o, rfl, _, hc⟩ := H1.out (by omega)
      obtain ⟨b2, o2, rfl, _, hc2⟩ := H2.out (by omega)
      have e0 : w.cell? ⟨b, o + k * 3, none⟩ = some (.int .u8 (tb.toNat : Int)) := hc (k * 3 + 0) _ (code_at (tkC_len L) ht rfl)
      have e1 : w.cell? ⟨b, o + k * 3 + 1, none⟩ = some (.int .i64 (tn : Int)) := hc (k * 3 + 1) _ (code_at (tkC_len L) ht rfl)
      have e2 : w.cell? ⟨b, o + k * 3 + 2, none⟩ = some (.int .i64 (td : Int)) := hc (k * 3 + 2) _ (code_at (tkC_len L) ht rfl)
      have g0 : w.cell? ⟨b2, o2 + k * 3, none⟩ = some (.int .u8 (tb.toNat : Int)) := hc2 (k * 3 + 0) _ (code_at (tkC_len L) ht rfl)
      have g1 : w.cell? ⟨b2, o2 + k * 3 + 1, none⟩ = some (.int .i64 (tn : Int)) := hc2 (k * 3 + 1) _ (code_at (tkC_len L) ht rfl)
      have g2 : w.cell? ⟨b2, o2 + k * 3 + 2, none⟩ = some (.int .i64 (td : Int)) := hc2 (k * 3 + 2) _ (code_at (tkC_len L) ht rfl)
      clear hc hc2 ht hlen h0
      go_wp2_with fail
      go_quiet (fail)
      go_wp2
      go_roundg (gk - 1)
      case measure => omega
      case rel => exact ⟨k + 1, m + nq, by omega, by go_num, by simp⟩
    · obtain rfl : k = l := by omega
      go_wp2
      go_ret
      exact ⟨rfl, Below.drewN (Below.refl _ w) m⟩
set_option maxHeartbeats 1000000 in
theorem splits_law (A : Option Addr) (l c : Nat) (bs : List UInt8) (lv : Int) (w : World) (hl : bs.length = l) (hcap : l ≤ c) (hb : Bytes w w.heap.size A bs) :
    Calls Try.prog 3 #[.slice A l c, .int .i64 lv] w fun e w' => e = .returned (.bool true) ∧ Below w.heap.size w w' := by
  have HLV := Lib.hid (fun W : World => lives11_any W)
  by_cases h0 : 700 < l
  · have t0 : decide ((700 : Int) < (l : Int)) = true := decide_eq_true (by omega)
    clear h0 hb
    go_enter Try.func3, Try.ntmps3
    go_wp2_with (go_at_call 7; refine (HLV.out _).mono ?_; rintro e w' ⟨rfl, hb2⟩; have HB2 := Lib.hid hb2; clear hb2)
    go_ret
    exact ⟨rfl, HB2.out⟩
  have t0 : decide ((700 : Int) < (l : Int)) = false := decide_eq_false (by omega)
  have HS1 := Lib.hid (split_any A l c bs lv w hl (by omega) hcap hb)
  have HS2 := Lib.hid (fun (Z : World) (h : Below w.heap.size w Z) => rsplit_any A l c bs lv Z hl (by omega) ((hb.below h (Nat.le_refl _)).more h.size))
  have hfew := toks_few bs lv
  obtain ⟨L, hL⟩ : ∃ L, toks bs lv 0 = L := ⟨_, rfl⟩
  rw [hL] at HS1 HS2 hfew
  have HSM := Lib.hid (fun (A1 A2 : Option Addr) (c1 c2 B1 B2 : Nat) (Z : World) (h1 : Cells Z B1 A1 (L.map tkC).flatten) (h2 : Cells Z B2 A2 (L.map tkC).flatten) => same_any A1 A2 L.length c1 c2 B1 B2 L Z rfl (by omega) h1 h2)
  have HD1 := Lib.hid (fun W => depth_any lv W)
  have HD2 := Lib.hid (fun W => rdepth_any lv W)
  have hq : (depthN lv == depthN lv) = true := by simp
  clear hb hL hfew hl h0
  generalize depthN lv = dn at *
  go_enter Try.func3, Try.ntmps3
  go_wp2_with (first
    | (go_at_call 9; refine HS1.out.mono ?_; rintro e w2 ⟨A2, c2, rfl, hcs, hb2⟩; have HC2 := Lib.hid hcs; have HB2 := Lib.hid hb2; clear hcs hb2)
    | (go_at_call 10; refine (HS2.out _ HB2.out).mono ?_; rintro e w3 ⟨A3, c3, rfl, hcs, hb3⟩; have HC3 := Lib.hid hcs; have HB3 := Lib.hid hb3; clear hcs hb3)
    | (go_at_call 8; refine (HSM.out _ _ _ _ _ _ _ (HC2.out.below HB3.out (Nat.le_refl _)) HC3.out).mono ?_; rintro e w4 ⟨rfl, hb4⟩; have HB4 := Lib.hid hb4; clear hb4)
    | (go_at_call 11; refine (HD1.out _).mono ?_; rintro e w' ⟨rfl, rfl⟩)
    | (go_at_call 12; refine (HD2.out _).mono ?_; rintro e w' ⟨rfl, rfl⟩)
    | (go_at_call 7; refine (HLV.out _).mono ?_; rintro e w5 ⟨rfl, hb5⟩; have HB5 := Lib.hid hb5; clear hb5))
  go_ret
  have hb1 := HB2.out.trans (HB3.out.mono HB2.out.size)
  have hb2 := hb1.trans (HB4.out.mono hb1.size)
  exact ⟨rfl, hb2.trans (HB5.out.mono hb2.size)⟩
end Go.Proofs.Ytdlikfefndogbaa
