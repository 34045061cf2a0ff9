/- Layer 26: SpacePlays walked. -/
import Derived.Test.YtkggobndofjclaaSpNone
namespace Go.Proofs.Ytkggobndofjclaa
open Go.RowKit
attribute [local go_sem ↓] Go.wp_at_zero Go.wp_at_succ

theorem does_any (g x : Nat) (a : LAct) (y : Nat) (B : Nat) (w : World) (hL : Led w g x) (hx : x ≤ 576460752303423488) (hy : y ≤ 576460752303423488) (hB : B ≤ g) (hI : a.In w B) (hs : a.s.size ≤ 300) (hN : NarrowF a.fs) :
    Calls Try.prog 10 #[.pointer (some ⟨g, 0, none⟩), .agg #[.int .i64 a.kind, .string a.s, .int .i64 a.n, .slice a.A a.len a.cap], .int .i64 (y : Int)] w fun e w' => e = .returned (.int .i64 (stepC y a : Nat)) ∧ Led w' g (stepC x a) ∧ Mod (oneB g) w w' := by
  by_cases h0 : a.kind = 0
  · exact does_0 g x a y w hL hx hy hs h0
  by_cases h1 : a.kind = 1
  · exact does_1 g x a y w hL hx hy hs h1
  by_cases h2 : a.kind = 2
  · exact does_2 g x a y w hL hx hy hs h2
  by_cases h3 : a.kind = 3
  · exact does_3 g x a y w hL hx hy hs h3
  · exact does_4 g x a y B w hL hB hI hN h0 h1 h2 h3
/-- What acts lead to. -/
def runC (acs : List LAct) : Nat := acs.foldl stepC 0
theorem runC_succ {acs : List LAct} {k : Nat} {a : LAct} (h : acs[k]? = some a) : runC (acs.take (k + 1)) = stepC (runC (acs.take k)) a := by
  unfold runC
  rw [List.take_add_one, h, List.foldl_append]
  rfl
theorem runC_le {acs : List LAct} (h : NarrowA acs) (k : Nat) (hk : k ≤ acs.length) : runC (acs.take k) ≤ (k + 1) * 16500000 := by
  induction k with
  | zero => exact Nat.zero_le _
  | succ k ih =>
    have hx : acs[k]? = some acs[k] := List.getElem?_eq_getElem (by omega)
    rw [runC_succ hx]
    obtain ⟨h1, h2⟩ := h.2 _ (List.mem_of_getElem? hx)
    exact stepC_le h1 h2 k (ih (by omega))

set_option maxRecDepth 100000 in
set_option maxHeartbeats 2000000 in
theorem plays26_any (A : Option Addr) (l c : Nat) (acs : List LAct) (C : Option Addr) (lf cf : Nat) (fs : List LF) (w : World) (hl : acs.length = l) (hlf : fs.length = lf) (hb : Cells w w.heap.size A (acs.map LAct.cells).flatten) (hin : ∀ a ∈ acs, a.In w w.heap.size) (hbf : Cells w w.heap.size C (fs.map LF.cells).flatten) :
    Calls Try.prog 3 #[.slice A l c, .slice C lf cf] w fun e w' => e = .returned (.bool true) ∧ Below w.heap.size w w' := by
  have HC := Lib.hid hb
  have HIN := Lib.hid hin
  have HCF := Lib.hid hbf
  have HFL := Lib.hid (acts_len acs)
  have HGR := Lib.hid (great_any A l c acs w.heap.size w hl hb hin)
  have HWI := Lib.hid (wide_any C lf cf fs w.heap.size w hlf hbf)
  clear hb hin hbf
  go_enter Try.func3, Try.ntmps3
  go_wp2_with fail
  refine HGR.out.mono ?_
  rintro e w' ⟨o1, rfl, rfl, hg1⟩
  have HG1 := Lib.hid hg1
  clear hg1 HGR
  cases o1 with
  | true =>
    go_wp2_with (go_at_call 9; refine (lives26_any _).mono ?_; rintro e w6 ⟨rfl, hb⟩; have HB6 := Lib.hid hb; clear hb)
    go_ret
    exact ⟨rfl, HB6.out⟩
  | false =>
    have HNA : Hid (NarrowA acs) := HG1.out rfl
    clear HG1
    go_wp2_with fail
    refine HWI.out.mono ?_
    rintro e w' ⟨o2, rfl, rfl, hg2⟩
    have HG2 := Lib.hid hg2
    clear hg2 HWI
    cases o2 with
    | true =>
      go_wp2_with (go_at_call 9; refine (lives26_any _).mono ?_; rintro e w6 ⟨rfl, hb⟩; have HB6 := Lib.hid hb; clear hb)
      go_ret
      exact ⟨rfl, HB6.out⟩
    | false =>
      have HNF : Hid (NarrowF fs) := HG2.out rfl
      clear HG2
      have hl250 : l ≤ 250 := by rw [← hl]; exact HNA.out.1
      have hlf250 : lf ≤ 250 := by rw [← hlf]; exact HNF.out.1
      have hrow := rowsC_le HNF.out
      have HL1 : Hid (Led (w.alloc (.cells #[.int .i64 0] 28)) w.heap.size 0) := heap_alloc_new w _
      have HB1 := Lib.hid ((Below.refl w.heap.size w).alloc (Nat.le_refl _) (.cells #[.int .i64 0] 28))
      have HRC := Lib.hid (fun k hk => runC_le HNA.out k hk)
      have HBO := Lib.hid (fun n (hn : n ≤ 576460752303423488) W (hL : Led W w.heap.size n) (hB : Below w.heap.size w W) => bound_any w.heap.size n C lf cf fs w.heap.size W hL hn hlf (by omega) (by omega) (HCF.out.below hB (Nat.le_refl _)) hB.size)
      have HRB := Lib.hid (fun n (hn : n ≤ 576460752303423488) W (hB : Below w.heap.size w W) => rbound_any n C lf cf fs w.heap.size W hn hlf (by omega) (by omega) (HCF.out.below hB (Nat.le_refl _)))
      have HBV : Hid (∀ n, boundC n fs = 1044 + n + rowsC fs) := fun n => rfl
      go_wp2
      go_loopg [6, 7] l (fun gk v i wr => ∃ k : Nat, k + gk = l ∧ i = .int .i64 k ∧ v = .int .i64 (runC (acs.take k) : Nat) ∧ Led wr w.heap.size (runC (acs.take k)) ∧ Below w.heap.size w wr)
      case atStart => exact ⟨0, by omega, rfl, rfl, HL1.out, HB1.out⟩
      case round =>
        obtain ⟨k, hk, rfl, rfl, hled, hbel⟩ := hrel
        have HLD := Lib.hid hled
        have HBD := Lib.hid hbel
        have hgl := hled.lt
        have hrn := HRC.out k (by omega)
        clear hled hbel HL1 HB1
        by_cases h : k < l
        · obtain ⟨a, hx⟩ : ∃ x, acs[k]? = some x := ⟨_, List.getElem?_eq_getElem (by omega)⟩
          obtain ⟨b, o, rfl, hbB, hc⟩ := HC.out (by rw [HFL.out]; omega)
          have HF := Lib.hid (acts_at hx)
          have c0 : wr.cell? ⟨b, o + k * 4, none⟩ = some (.int .i64 a.kind) := (HBD.out.cell (show b < w.heap.size by omega)).trans (hc _ _ HF.out.1)
          have c1 : wr.cell? ⟨b, o + k * 4 + 1, none⟩ = some (.string a.s) := (HBD.out.cell (show b < w.heap.size by omega)).trans (by rw [Nat.add_assoc]; exact hc _ _ HF.out.2.1)
          have c2 : wr.cell? ⟨b, o + k * 4 + 2, none⟩ = some (.int .i64 a.n) := (HBD.out.cell (show b < w.heap.size by omega)).trans (by rw [Nat.add_assoc]; exact hc _ _ HF.out.2.2.1)
          have c3 : wr.cell? ⟨b, o + k * 4 + 3, none⟩ = some (.slice a.A a.len a.cap) := (HBD.out.cell (show b < w.heap.size by omega)).trans (by rw [Nat.add_assoc]; exact hc _ _ HF.out.2.2.2)
          have HS1 := Lib.hid (runC_succ hx)
          have hrn2 := HRC.out (k + 1) (by omega)
          have hna := HNA.out.2 a (List.mem_of_getElem? hx)
          have HDO := Lib.hid (does_any w.heap.size (runC (acs.take k)) a (runC (acs.take k)) w.heap.size wr HLD.out (by omega) (by omega) (Nat.le_refl _) ((HIN.out a (List.mem_of_getElem? hx)).below HBD.out) hna.1 hna.2)
          rw [← HS1.out] at HDO
          clear hc hx hna HS1
          obtain ⟨r1, hr1⟩ : ∃ r1, runC (acs.take (k + 1)) = r1 := ⟨_, rfl⟩
          rw [hr1] at HDO hrn2
          have HR1 := Lib.hid hr1
          clear hr1
          go_wp2_with fail
          refine HDO.out.mono ?_
          rintro e w2 ⟨rfl, hled, hm⟩
          have HLD2 := Lib.hid hled
          have HBD2 := Lib.hid (hm.below HBD.out HBD.out.size (fun k hk => Nat.le_of_eq (Eq.symm hk)))
          clear hled hm HDO c0 c1 c2 c3
          go_wp2_with (first
            | (go_at_call 11; refine (issued_any w.heap.size r1 _ HLD2.out).mono ?_; rintro e w' ⟨rfl, rfl⟩)
            | (go_at_call 12; refine (HBO.out r1 (by omega) _ HLD2.out HBD2.out).mono ?_; rintro e w3 ⟨rfl, hb⟩; have HBD3 := Lib.hid (HBD2.out.trans (hb.mono HBD2.out.size)); have HLD3 := Lib.hid (Box.below HLD2.out hb HLD2.out.lt); clear hb)
            | (go_at_call 13; refine (HRB.out r1 (by omega) _ HBD3.out).mono ?_; rintro e w' ⟨rfl, rfl⟩))
          go_roundg (gk - 1)
          case measure => omega
          case rel => exact ⟨k + 1, by omega, by go_num, by rw [HR1.out], by rw [HR1.out]; exact HLD3.out, HBD3.out⟩
        · obtain rfl : k = l := by omega
          generalize runC (acs.take k) = r1 at *
          go_wp2_with (first
            | (go_at_call 12; refine (HBO.out r1 (by omega) _ HLD.out HBD.out).mono ?_; rintro e w3 ⟨rfl, hb⟩; have HBD3 := Lib.hid (HBD.out.trans (hb.mono HBD.out.size)); clear hb)
            | (go_at_call 13; refine (HRB.out r1 (by omega) _ HBD3.out).mono ?_; rintro e w' ⟨rfl, rfl⟩)
            | (go_at_call 9; refine (lives26_any _).mono ?_; rintro e w6 ⟨rfl, hb⟩; have HB6 := Lib.hid (HBD3.out.trans (hb.mono HBD3.out.size)); clear hb))
          go_ret
          exact ⟨rfl, HB6.out⟩
end Go.Proofs.Ytkggobndofjclaa
