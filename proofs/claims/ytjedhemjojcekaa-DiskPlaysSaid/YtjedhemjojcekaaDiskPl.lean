/- Layer 4: the law DiskPlays. -/
import Derived.Test.YtjedhemjojcekaaDiskSa
import Derived.Test.YtjedhemjojcekaaDiskSyn
namespace Go.Proofs.Ytjedhemjojcekaa
open Go.RowKit
attribute [local go_sem ↓] Go.wp_at_zero Go.wp_at_succ

set_option maxRecDepth 100000 in
set_option maxHeartbeats 4000000 in
theorem plays_walk (A : Option Addr) (l c : Nat) (rs : List DOp) (w : World) (hl : rs.length = l) (hlm : l ≤ 9223372036854775807) (hg : ∀ r ∈ rs, DOp.Good w r) (hs : ∀ r ∈ rs, (r.code).length = 5) (hc : Cells w w.heap.size A (rs.map DOp.code).flatten) :
    Calls Try.prog 3 #[.slice A l c] w fun e w' => e = .returned (.bool true) ∧ Below w.heap.size w w' := by
  have HLV := Lib.hid (fun W => lives4_any W)
  have HG := Lib.hid hg
  have HS := Lib.hid hs
  have HL := Lib.hid hl
  have HC : Hid (Cells w w.heap.size A (rs.map DOp.code).flatten) := hc
  have HN1 := Lib.hid (near_any A l c rs w w w.heap.size hl hlm hg hs hc)
  obtain ⟨n, hn⟩ : ∃ n, n = w.heap.size := ⟨_, rfl⟩
  have hBN := both_new w
  clear hg hs hl hc
  go_enter Try.func3, Try.ntmps3
  go_wp2_with (first
    | (go_at_call 4; refine HN1.out.mono ?_; clear HN1; rintro e w' ⟨b1, rfl, rfl, hb1⟩; have HR1 := Lib.hid hb1; clear hb1; cases b1)
    | (go_at_call 5; refine (HLV.out _).mono ?_; rintro e w9 ⟨rfl, hb9⟩; have HB9 := Lib.hid hb9; clear hb9))
  all_goals first
    | (go_ret; exact ⟨rfl, HB9.out⟩)
    | skip
  obtain ⟨hl40, h3⟩ := HR1.out (by trivial)
  have hbw : Below w.heap.size w ((w.alloc (.cells #[.slice none 0 0, .slice none 0 0, .slice none 0 0] 28)).alloc (.cells #[.slice none 0 0, .slice none 0 0, .slice none 0 0, .slice none 0 0] 33)) := ((Below.refl _ w).alloc (Nat.le_refl _) _).alloc (by simp) _
  have hsz3 : w.heap.size ≤ ((w.alloc (.cells #[.slice none 0 0, .slice none 0 0, .slice none 0 0] 28)).alloc (.cells #[.slice none 0 0, .slice none 0 0, .slice none 0 0, .slice none 0 0] 33)).heap.size := by simp; omega
  have HNN := Lib.hid hn
  rw [← hn] at hBN hsz3 ⊢
  generalize ((w.alloc (.cells #[.slice none 0 0, .slice none 0 0, .slice none 0 0] 28)).alloc (.cells #[.slice none 0 0, .slice none 0 0, .slice none 0 0, .slice none 0 0] 33)) = w3 at *
  have HBN := Lib.hid hBN
  have HBW := Lib.hid hbw
  have HSZ := Lib.hid hsz3
  have HH3 := Lib.hid h3
  clear hBN hbw hsz3 hn h3 HR1
  go_loopg [5] l (fun gk v wr => ∃ (i : Nat) (S1 S2 : Nat → Prop) (now safe : List UInt8) (waits : List (Nat × List UInt8)), i + gk = l ∧ v = .int .i64 (i : Int) ∧ Both wr n (n + 1) n S1 S2 now safe waits ∧ waits.length ≤ 10 * i ∧ Below n w3 wr)
  case atStart => exact ⟨0, _, _, _, _, _, by omega, rfl, HBN.out, by simp, Below.refl _ _⟩
  case round =>
    clear HBN
    obtain ⟨i, S1, S2, now, safe, waits, hi, rfl, hbo, hwl, hbe⟩ := hrel
    have HBO := Lib.hid hbo
    have HWL := Lib.hid hwl
    have HBE := Lib.hid hbe
    have HBWr : Hid (Below w.heap.size w wr) := HBW.out.trans (hbe.mono (by have := HNN.out; omega))
    have HSZr : Hid (n ≤ wr.heap.size) := Nat.le_trans HSZ.out hbe.size
    clear hbo hwl hbe
    by_cases hil : i < l
    · obtain ⟨o, ho⟩ := get_lt (bs := rs) (k := i) (by rw [HL.out]; exact hil)
      have hgo := HG.out o (List.mem_of_getElem? ho)
      have hb3 := HH3.out o (List.mem_of_getElem? ho)
      have HDO := Lib.hid (does_all n (n + 1) n S1 S2 now safe waits o w wr hgo hb3 HBO.out HSZr.out (by have := HNN.out; omega) HBWr.out (by have := HWL.out; omega))
      have hpos : 0 < ((rs.map DOp.code).flatten).length := (List.getElem?_eq_some_iff.1 (code_at (s := 5) (j := 0) HS.out ho rfl)).1 |> fun h => by omega
      obtain ⟨b', o', rfl, hbB, hcell⟩ := (HC.out.below HBWr.out (Nat.le_refl _)) hpos
      have hc0 := hcell _ _ (code_at (s := 5) (j := 0) HS.out ho rfl)
      have hc1 := hcell _ _ (code_at (s := 5) (j := 1) HS.out ho rfl)
      have hc2 := hcell _ _ (code_at (s := 5) (j := 2) HS.out ho rfl)
      have hc3 := hcell _ _ (code_at (s := 5) (j := 3) HS.out ho rfl)
      have hc4 := hcell _ _ (code_at (s := 5) (j := 4) HS.out ho rfl)
      clear hcell ho hgo hbB hb3
      rw [Nat.add_zero] at hc0
      rw [← Nat.add_assoc] at hc1 hc2 hc3 hc4
      go_wp2_with (first
        | (go_at_call 6; refine HDO.out.mono ?_; clear HDO; rintro e w5 ⟨rfl, S1', S2', now', safe', waits', hbo, hbe, hwl⟩; have HBO5 := Lib.hid hbo; have HBE5 := Lib.hid hbe; have HWL5 := Lib.hid hwl; clear hbo hbe hwl)
        | (go_at_call 7; refine (same4_any n (n + 1) n S1' S2' now' safe' waits' w5 HBO5.out).mono ?_; rintro e w6 ⟨rfl, hm6⟩; have HM6 := Lib.hid hm6; clear hm6))
      go_roundg (gk - 1)
      case measure => omega
      case rel => exact ⟨i + 1, S1', S2', now', safe', waits', by omega, rfl, HBO5.out.keep HM6.out, by have := HWL5.out; have := HWL.out; omega, (HBE.out.trans HBE5.out).trans (HM6.out.below (Below.refl _ _) (Nat.le_trans HSZr.out HBE5.out.size) (fun _ h => h.elim))⟩
    · obtain rfl : i = l := by omega
      go_wp2_with (go_at_call 5; refine (HLV.out _).mono ?_; rintro e w9 ⟨rfl, hb9⟩; have HB9 := Lib.hid hb9; clear hb9)
      go_ret
      exact ⟨rfl, HBWr.out.trans (HB9.out.mono HBWr.out.size)⟩
end Go.Proofs.Ytjedhemjojcekaa
