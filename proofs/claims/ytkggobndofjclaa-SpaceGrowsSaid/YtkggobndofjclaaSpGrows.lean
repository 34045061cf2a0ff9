/- Layer 26: SpaceGrows walked. -/
import Derived.Test.YtkggobndofjclaaSpPlays
namespace Go.Proofs.Ytkggobndofjclaa
open Go.RowKit
attribute [local go_sem ↓] Go.wp_at_zero Go.wp_at_succ

/-- What acts lead to, where those that are no act of these four are passed over. -/
def growC (acs : List LAct) : Nat := acs.foldl (fun x a => if a.kind < 0 ∨ 3 < a.kind then x else stepC x a) 0
theorem growC_succ {acs : List LAct} {k : Nat} {a : LAct} (h : acs[k]? = some a) : growC (acs.take (k + 1)) = if a.kind < 0 ∨ 3 < a.kind then growC (acs.take k) else stepC (growC (acs.take k)) a := by
  unfold growC
  rw [List.take_add_one, h, List.foldl_append]
  rfl
theorem stepC_ge {x : Nat} {a : LAct} (h : ¬ (a.kind < 0 ∨ 3 < a.kind)) : x ≤ stepC x a := by
  unfold stepC
  split
  · omega
  · split
    · omega
    · split
      · omega
      · rw [if_pos (by omega)]; omega
theorem growC_le {acs : List LAct} (h : NarrowA acs) (k : Nat) (hk : k ≤ acs.length) : growC (acs.take k) ≤ (k + 1) * 16500000 := by
  induction k with
  | zero => exact Nat.zero_le _
  | succ k ih =>
    have hx : acs[k]? = some acs[k] := List.getElem?_eq_getElem (by omega)
    have ih := ih (by omega)
    rw [growC_succ hx]
    by_cases hp : acs[k].kind < 0 ∨ 3 < acs[k].kind
    · rw [if_pos hp]
      exact Nat.le_trans ih (Nat.mul_le_mul_right _ (by omega))
    · rw [if_neg hp]
      obtain ⟨h1, h2⟩ := h.2 _ (List.mem_of_getElem? hx)
      exact stepC_le h1 h2 k ih
theorem rowsC_cons (f : LF) (fs : List LF) : rowsC (f :: fs) = 18 + f.s.size + rowsC fs := by unfold rowsC; rw [List.map_cons, List.sum_cons]

theorem bound_none (g n : Nat) (W : World) (hL : Led W g n) (hn : n ≤ 576460752303423488) : Calls Try.prog 12 #[.pointer (some ⟨g, 0, none⟩), .slice none 0 0] W fun e w' => e = .returned (.int .i64 (1044 + n : Nat)) ∧ Below W.heap.size W w' :=
  bound_any g n none 0 0 [] 0 W hL hn rfl (by omega) (by show 0 ≤ _; omega) (Cells.nil _ _ _) (Nat.zero_le _)
set_option maxRecDepth 100000 in
set_option maxHeartbeats 2000000 in
theorem grows26_any (A : Option Addr) (l c : Nat) (acs : List LAct) (C : Option Addr) (lf cf : Nat) (fs : List LF) (w : World) (hl : acs.length = l) (hlf : fs.length = lf) (hlc : lf ≤ cf) (hb : Cells w w.heap.size A (acs.map LAct.cells).flatten) (hin : ∀ a ∈ acs, a.In w w.heap.size) (hbf : Cells w w.heap.size C (fs.map LF.cells).flatten) :
    Calls Try.prog 6 #[.slice A l c, .slice C lf cf] w fun e w' => e = .returned (.bool true) ∧ Below w.heap.size w w' := by
  have HC := Lib.hid hb
  have HIN := Lib.hid hin
  have HCF := Lib.hid hbf
  have HFL := Lib.hid (acts_len acs)
  have HGR := Lib.hid (great_any A l c acs w.heap.size w hl hb hin)
  have HWI := Lib.hid (wide_any C lf cf fs w.heap.size w hlf hbf)
  clear hb hin hbf
  go_enter Try.func6, Try.ntmps6
  go_wp2_with fail
  refine HGR.out.mono ?_
  rintro e w' ⟨o1, rfl, rfl, hg1⟩
  have HG1 := Lib.hid hg1
  clear hg1 HGR
  cases o1 with
  | true =>
    go_wp2_with (go_at_call 9; refine (lives26_any _).mono ?_; rintro e w6 ⟨rfl, hb⟩; have HB6 := Lib.hid hb; clear hb)
    go_ret
    exact ⟨rfl, HB6.out⟩
  | false =>
    have HNA : Hid (NarrowA acs) := HG1.out rfl
    clear HG1
    go_wp2_with fail
    refine HWI.out.mono ?_
    rintro e w' ⟨o2, rfl, rfl, hg2⟩
    have HG2 := Lib.hid hg2
    clear hg2 HWI
    cases o2 with
    | true =>
      go_wp2_with (go_at_call 9; refine (lives26_any _).mono ?_; rintro e w6 ⟨rfl, hb⟩; have HB6 := Lib.hid hb; clear hb)
      go_ret
      exact ⟨rfl, HB6.out⟩
    | false =>
      have HNF : Hid (NarrowF fs) := HG2.out rfl
      clear HG2
      have hl250 : l ≤ 250 := by rw [← hl]; exact HNA.out.1
      have hlf250 : lf ≤ 250 := by rw [← hlf]; exact HNF.out.1
      have hrow := rowsC_le HNF.out
      have hrec := recsC_le HNF.out
      have HL1 : Hid (Led (w.alloc (.cells #[.int .i64 0] 28)) w.heap.size 0) := heap_alloc_new w _
      have HB1 := Lib.hid ((Below.refl w.heap.size w).alloc (Nat.le_refl _) (.cells #[.int .i64 0] 28))
      have HRC := Lib.hid (fun k hk => growC_le HNA.out k hk)
      have HBN := Lib.hid (fun n W (hL : Led W w.heap.size n) (hn : n ≤ 576460752303423488) => bound_none w.heap.size n W hL hn)
      have HBO := Lib.hid (fun n (hn : n ≤ 576460752303423488) W (hL : Led W w.heap.size n) (hB : Below w.heap.size w W) => bound_any w.heap.size n C lf cf fs w.heap.size W hL hn hlf (by omega) (by omega) (HCF.out.below hB (Nat.le_refl _)) hB.size)
      go_wp2_with ((go_at_call 12; refine (HBN.out 0 _ HL1.out (by omega)).mono ?_; rintro e w2 ⟨rfl, hb⟩; have HB2 := Lib.hid (HB1.out.trans (hb.mono HB1.out.size)); have HL2 := Lib.hid (Box.below HL1.out hb HL1.out.lt); clear hb))
      go_loopg [6, 7] l (fun gk v i wr => ∃ k : Nat, k + gk = l ∧ i = .int .i64 k ∧ v = .int .i64 ((1044 + growC (acs.take k) : Nat) : Int) ∧ Led wr w.heap.size (growC (acs.take k)) ∧ Below w.heap.size w wr)
      case atStart => exact ⟨0, by omega, rfl, rfl, HL2.out, HB2.out⟩
      case round =>
        obtain ⟨k, hk, rfl, rfl, hled, hbel⟩ := hrel
        have HLD := Lib.hid hled
        have HBD := Lib.hid hbel
        have hgl := hled.lt
        have hrn := HRC.out k (by omega)
        clear hled hbel HL1 HB1 HL2 HB2
        by_cases h : k < l
        · obtain ⟨a, hx⟩ : ∃ x, acs[k]? = some x := ⟨_, List.getElem?_eq_getElem (by omega)⟩
          obtain ⟨b, o, rfl, hbB, hc⟩ := HC.out (by rw [HFL.out]; omega)
          have HF := Lib.hid (acts_at hx)
          have c0 : wr.cell? ⟨b, o + k * 4, none⟩ = some (.int .i64 a.kind) := (HBD.out.cell (show b < w.heap.size by omega)).trans (hc _ _ HF.out.1)
          have c1 : wr.cell? ⟨b, o + k * 4 + 1, none⟩ = some (.string a.s) := (HBD.out.cell (show b < w.heap.size by omega)).trans (by rw [Nat.add_assoc]; exact hc _ _ HF.out.2.1)
          have c2 : wr.cell? ⟨b, o + k * 4 + 2, none⟩ = some (.int .i64 a.n) := (HBD.out.cell (show b < w.heap.size by omega)).trans (by rw [Nat.add_assoc]; exact hc _ _ HF.out.2.2.1)
          have c3 : wr.cell? ⟨b, o + k * 4 + 3, none⟩ = some (.slice a.A a.len a.cap) := (HBD.out.cell (show b < w.heap.size by omega)).trans (by rw [Nat.add_assoc]; exact hc _ _ HF.out.2.2.2)
          have HS1 := Lib.hid (growC_succ hx)
          have hrn2 := HRC.out (k + 1) (by omega)
          have hna := HNA.out.2 a (List.mem_of_getElem? hx)
          have HDO := Lib.hid (does_any w.heap.size (growC (acs.take k)) a 0 w.heap.size wr HLD.out (by omega) (by omega) (Nat.le_refl _) ((HIN.out a (List.mem_of_getElem? hx)).below HBD.out) hna.1 hna.2)
          by_cases hp : a.kind < 0 ∨ 3 < a.kind
          · rw [if_pos hp] at HS1
            have HS2 := Lib.hid HS1.out
            clear hc hx hna HDO
            by_cases hp1 : a.kind < 0
            · have d1 : decide (a.kind < 0) = true := by simp; omega
              clear hp hp1
              go_wp2
              go_roundg (gk - 1)
              case measure => omega
              case rel => exact ⟨k + 1, by omega, by go_num, by rw [HS2.out]; try go_num, by rw [HS2.out]; exact HLD.out, HBD.out⟩
            · have d1 : decide (a.kind < 0) = false := by simp; omega
              have d2 : decide (3 < a.kind) = true := by simp; omega
              clear hp hp1
              go_wp2
              go_roundg (gk - 1)
              case measure => omega
              case rel => exact ⟨k + 1, by omega, by go_num, by rw [HS2.out]; try go_num, by rw [HS2.out]; exact HLD.out, HBD.out⟩
          · rw [if_neg hp] at HS1
            have hge := stepC_ge (x := growC (acs.take k)) hp
            have d1 : decide (a.kind < 0) = false := by simp; omega
            have d2 : decide (3 < a.kind) = false := by simp; omega
            rw [HS1.out] at hrn2
            clear hc hx hna hp
            have HS2 := Lib.hid HS1.out
            clear HS1
            obtain ⟨r1, hr1⟩ : ∃ r1, stepC (growC (acs.take k)) a = r1 := ⟨_, rfl⟩
            rw [hr1] at HDO HS2 hrn2 hge
            clear hr1
            generalize growC (acs.take k) = r0 at *
            have d3 : decide (((1044 + r1 : Nat) : Int) < ((1044 + r0 : Nat) : Int)) = false := by simp; omega
            go_wp2_with fail
            refine HDO.out.mono ?_
            rintro e w3 ⟨rfl, hled, hm⟩
            have HLD2 := Lib.hid hled
            have HBD2 := Lib.hid (hm.below HBD.out HBD.out.size (fun k hk => Nat.le_of_eq (Eq.symm hk)))
            clear hled hm HDO c0 c1 c2 c3
            go_wp2_with fail
            refine (HBN.out r1 _ HLD2.out (by omega)).mono ?_
            rintro e w4 ⟨rfl, hb⟩
            have HBD3 := Lib.hid (HBD2.out.trans (hb.mono HBD2.out.size))
            have HLD3 := Lib.hid (Box.below HLD2.out hb HLD2.out.lt)
            clear hb
            go_wp2_with fail
            refine (HBN.out r1 _ HLD3.out (by omega)).mono ?_
            rintro e w5 ⟨rfl, hb⟩
            have HBD4 := Lib.hid (HBD3.out.trans (hb.mono HBD3.out.size))
            have HLD4 := Lib.hid (Box.below HLD3.out hb HLD3.out.lt)
            clear hb
            go_wp2
            go_roundg (gk - 1)
            case measure => omega
            case rel => exact ⟨k + 1, by omega, by go_num, by rw [HS2.out]; try go_num, by rw [HS2.out]; exact HLD4.out, HBD4.out⟩
        · obtain rfl : k = l := by omega
          clear HC HIN HFL HRC
          obtain ⟨r0, hr0⟩ : ∃ r0, growC (acs.take k) = r0 := ⟨_, rfl⟩
          rw [hr0] at HLD hrn
          rw [hr0]
          clear hr0
          have HFF := Lib.hid (files_len fs)
          have HSM := Lib.hid (recsC_take_le fs)
          go_wp2
          go_loopg [8] lf (fun gk i wr => ∃ j : Nat, j + gk = lf ∧ i = .int .i64 j ∧ Led wr w.heap.size (r0 + recsC (fs.take j)) ∧ Below w.heap.size w wr)
          case atStart => exact ⟨0, by omega, rfl, HLD.out, HBD.out⟩
          case round =>
            obtain ⟨j, hj, rfl, hled, hbel⟩ := hrel
            clear HLD HBD
            have HLD := Lib.hid hled
            have HBD := Lib.hid hbel
            have hgl2 := hled.lt
            clear hled hbel
            by_cases hh : j < lf
            · obtain ⟨f, hx⟩ : ∃ x, fs[j]? = some x := ⟨_, List.getElem?_eq_getElem (by omega)⟩
              obtain ⟨b, o, rfl, hbB, hc⟩ := HCF.out (by rw [HFF.out]; omega)
              have HF := Lib.hid (files_at hx)
              have c0 : (wr.drew).cell? ⟨b, o + j * 2, none⟩ = some (.string f.s) := (HBD.out.cell (show b < w.heap.size by omega)).trans (hc _ _ HF.out.1)
              have c1 : (wr.drew).cell? ⟨b, o + j * 2 + 1, none⟩ = some (.slice f.A f.len f.cap) := (HBD.out.cell (show b < w.heap.size by omega)).trans (by rw [Nat.add_assoc]; exact hc _ _ HF.out.2)
              have HS1 := Lib.hid (recsC_take_succ hx)
              have h1 := HSM.out j
              have hsz := recsC_at hx
              have HPU := Lib.hid (put26_any w.heap.size (r0 + recsC (fs.take j)) f.s (f.len : Int) wr.drew HLD.out (by omega) (by omega))
              rw [Nat.add_assoc, ← HS1.out] at HPU
              clear hc hx
              go_wp2
              go_region_with (first | (go_at_call 19; refine HPU.out.mono ?_; rintro e w3 ⟨rfl, hled, hm⟩; have HLD2 := Lib.hid hled; have HBD2 := Lib.hid (hm.below HBD.out.drew HBD.out.drew.size (fun k hk => Nat.le_of_eq (Eq.symm hk))); clear hled hm))
              all_goals
                go_wp2
                go_roundg (gk - 1)
                case measure => omega
                case rel => exact ⟨j + 1, by omega, by go_num, HLD2.out, HBD2.out⟩
            · obtain rfl : j = lf := by omega
              have HK : Hid (recsC (fs.take j) = recsC fs) := by show _ = _; rw [List.take_of_length_le (by omega)]
              rw [HK.out] at HLD
              clear HK HSM
              have HVA := Lib.hid (fun x W (hL : Led W w.heap.size x) (hB : Below w.heap.size w W) => vacuum_any w.heap.size x C j cf fs w.heap.size W hL hlf (by omega) (by omega) (HCF.out.below hB (Nat.le_refl _)) (Nat.le_refl _))
              have hn1 : r0 + recsC fs ≤ 576460752303423488 := by omega
              have hbv : ∀ n, boundC n fs = 1044 + n + rowsC fs := fun n => rfl
              simp only [hbv] at HBO
              clear hbv
              by_cases h0 : 0 < j
              · obtain ⟨f0, ft, rfl⟩ : ∃ f0 ft, fs = f0 :: ft := by
                  cases fs with
                  | nil => simp at hlf; omega
                  | cons f0 ft => exact ⟨f0, ft, rfl⟩
                obtain ⟨b, o, rfl, hbB, hc⟩ := HCF.out (by rw [HFF.out]; omega)
                have HF := Lib.hid (files_at (fs := f0 :: ft) (k := 0) rfl)
                have hrc := rowsC_cons f0 ft
                have hft : ft.length = j - 1 := by simp at hlf; omega
                have HCT : Hid (∃ A2 : Option Addr, (A2 = if cf = 1 then some ⟨b, o, none⟩ else some ⟨b, o + 2, none⟩) ∧ Cells w w.heap.size A2 (ft.map LF.cells).flatten) := by
                  by_cases hcf : cf = 1
                  · refine ⟨some ⟨b, o, none⟩, by rw [if_pos hcf], ?_⟩
                    obtain rfl : ft = [] := List.eq_nil_of_length_eq_zero (by omega)
                    exact Cells.nil _ _ _
                  · exact ⟨some ⟨b, o + 2, none⟩, by rw [if_neg hcf], fun _ => ⟨b, o + 2, rfl, hbB, fun q u hu => by
                      have := hc (2 + q) u (by rw [List.map_cons, List.flatten_cons, List.getElem?_append_right (by show 2 ≤ _; omega)]; rw [show 2 + q - f0.cells.length = q by show 2 + q - 2 = q; omega]; exact hu)
                      rw [Nat.add_assoc]
                      exact this⟩⟩
                obtain ⟨A2, hA2, hct⟩ := HCT.out
                have HBT := Lib.hid (fun l2 c2 n (h2 : ft.length = l2) (hn : n ≤ 576460752303423488) W (hL : Led W w.heap.size n) (hB : Below w.heap.size w W) => bound_any w.heap.size n A2 l2 c2 ft w.heap.size W hL hn h2 (by omega) (by omega) (hct.below hB (Nat.le_refl _)) hB.size)
                have HA2 := Lib.hid hA2
                have hbt : ∀ n, boundC n ft = 1044 + n + rowsC ft := fun n => rfl
                simp only [hbt] at HBT
                clear hA2 hct
                have HSZ : Hid (f0.s.size ≤ 300) := (HNF.out.2 f0 (by simp)).1
                have hsz := HSZ.out
                have HC0 := Lib.hid (hc 0 _ HF.out.1)
                clear hbt hc HF HFF HCT HNF
                generalize recsC (f0 :: ft) = rc at *
                generalize rowsC (f0 :: ft) = rw1 at *
                generalize rowsC ft = rw2 at *
                have hg0 : decide (0 < (j : Int)) = true := by simp; omega
                obtain ⟨n2, hn2⟩ : ∃ n2, r0 + rc + (22 + f0.s.size) = n2 := ⟨_, rfl⟩
                have HC1 := Lib.hid (fun W hL hB => HBO.out (r0 + rc) (by omega) W hL hB)
                have HC2 := Lib.hid (fun l2 c2 h2 W hL hB => HBT.out l2 c2 n2 h2 (by omega) W hL hB)
                have HC3 := Lib.hid (fun W hL hB => HBO.out n2 (by omega) W hL hB)
                have HC4 := Lib.hid (fun W hL hB => HBO.out rc (by omega) W hL hB)
                obtain ⟨x1, hx1⟩ : ∃ x1, 1044 + (r0 + rc) + rw1 = x1 := ⟨_, rfl⟩
                obtain ⟨x2, hx2⟩ : ∃ x2, 1044 + n2 + rw2 = x2 := ⟨_, rfl⟩
                obtain ⟨x3, hx3⟩ : ∃ x3, 1044 + n2 + rw1 = x3 := ⟨_, rfl⟩
                obtain ⟨x4, hx4⟩ : ∃ x4, 1044 + rc + rw1 = x4 := ⟨_, rfl⟩
                rw [hx1] at HC1
                rw [hx2] at HC2
                rw [hx3] at HC3
                rw [hx4] at HC4
                have q1 : decide ((x2 : Int) < (x1 : Int)) = false := by simp; omega
                have q2 : decide (x2 < x1) = false := by simp; omega
                have q3 : decide ((x4 : Int) ≤ (x3 : Int)) = true := by simp; omega
                have q4 : decide (x4 ≤ x3) = true := by simp; omega
                have HN2 := Lib.hid hn2
                have hn2' : n2 ≤ 576460752303423488 := by omega
                clear hrc hx1 hx2 hx3 hx4 hn2
                go_wp2_with fail
                refine (HC1.out _ HLD.out HBD.out).mono ?_
                rintro e w11 ⟨rfl, hb⟩
                have HB11 := Lib.hid (HBD.out.trans (hb.mono HBD.out.size))
                have HL11 := Lib.hid (Box.below HLD.out hb HLD.out.lt)
                clear hb
                have c0 : w11.cell? ⟨b, o, none⟩ = some (.string f0.s) := (HB11.out.cell (show b < w.heap.size by omega)).trans HC0.out
                go_wp2_with fail
                refine (delete26_any w.heap.size (r0 + rc) f0.s _ HL11.out (by omega) (by omega)).mono ?_
                rintro e w12 ⟨rfl, hled, hm⟩
                rw [HN2.out] at hled
                have HL12 := Lib.hid hled
                have HB12 := Lib.hid (hm.below HB11.out HB11.out.size (fun k hk => Nat.le_of_eq (Eq.symm hk)))
                clear hled hm c0
                by_cases hcf : cf = 1
                · rw [if_pos hcf] at HA2
                  have h2 := HA2.out
                  subst h2 hcf
                  go_wp2_with fail
                  refine (HC2.out 0 0 (by omega) _ HL12.out HB12.out).mono ?_
                  rintro e w13 ⟨rfl, hb⟩
                  have HB13 := Lib.hid (HB12.out.trans (hb.mono HB12.out.size))
                  have HL13 := Lib.hid (Box.below HL12.out hb HL12.out.lt)
                  clear hb
                  go_wp2_with fail
                  refine (HC3.out _ HL13.out HB13.out).mono ?_
                  rintro e w15 ⟨rfl, hb⟩
                  have HB15 := Lib.hid (HB13.out.trans (hb.mono HB13.out.size))
                  have HL15 := Lib.hid (Box.below HL13.out hb HL13.out.lt)
                  clear hb
                  go_wp2_with fail
                  refine (HVA.out n2 _ HL15.out HB15.out).mono ?_
                  rintro e w14 ⟨rfl, hled, hm⟩
                  have HL14 := Lib.hid hled
                  have HB14 := Lib.hid (hm.below HB15.out HB15.out.size (fun k hk => Nat.le_of_eq (Eq.symm hk)))
                  clear hled hm
                  go_wp2_with fail
                  refine (HC4.out _ HL14.out HB14.out).mono ?_
                  rintro e w17 ⟨rfl, hb⟩
                  have HB17 := Lib.hid (HB14.out.trans (hb.mono HB14.out.size))
                  have HL17 := Lib.hid (Box.below HL14.out hb HL14.out.lt)
                  clear hb
                  go_wp2_with (go_at_call 9; refine (lives26_any _).mono ?_; rintro e w16 ⟨rfl, hb⟩; have HB16 := Lib.hid (HB17.out.trans (hb.mono HB17.out.size)); clear hb)
                  go_ret
                  exact ⟨rfl, HB16.out⟩
                · rw [if_neg hcf] at HA2
                  have h2 := HA2.out
                  subst h2
                  go_wp2_with fail
                  refine (HC2.out (j - 1) (cf - 1) hft _ HL12.out HB12.out).mono ?_
                  rintro e w13 ⟨rfl, hb⟩
                  have HB13 := Lib.hid (HB12.out.trans (hb.mono HB12.out.size))
                  have HL13 := Lib.hid (Box.below HL12.out hb HL12.out.lt)
                  clear hb
                  go_wp2_with fail
                  refine (HC3.out _ HL13.out HB13.out).mono ?_
                  rintro e w15 ⟨rfl, hb⟩
                  have HB15 := Lib.hid (HB13.out.trans (hb.mono HB13.out.size))
                  have HL15 := Lib.hid (Box.below HL13.out hb HL13.out.lt)
                  clear hb
                  go_wp2_with fail
                  refine (HVA.out n2 _ HL15.out HB15.out).mono ?_
                  rintro e w14 ⟨rfl, hled, hm⟩
                  have HL14 := Lib.hid hled
                  have HB14 := Lib.hid (hm.below HB15.out HB15.out.size (fun k hk => Nat.le_of_eq (Eq.symm hk)))
                  clear hled hm
                  go_wp2_with fail
                  refine (HC4.out _ HL14.out HB14.out).mono ?_
                  rintro e w17 ⟨rfl, hb⟩
                  have HB17 := Lib.hid (HB14.out.trans (hb.mono HB14.out.size))
                  have HL17 := Lib.hid (Box.below HL14.out hb HL14.out.lt)
                  clear hb
                  go_wp2_with (go_at_call 9; refine (lives26_any _).mono ?_; rintro e w16 ⟨rfl, hb⟩; have HB16 := Lib.hid (HB17.out.trans (hb.mono HB17.out.size)); clear hb)
                  go_ret
                  exact ⟨rfl, HB16.out⟩
              · obtain rfl : j = 0 := by omega
                generalize recsC fs = rc at *
                generalize rowsC fs = rw1 at *
                have HC1 := Lib.hid (fun W hL hB => HBO.out (r0 + rc) (by omega) W hL hB)
                have HC4 := Lib.hid (fun W hL hB => HBO.out rc (by omega) W hL hB)
                obtain ⟨x1, hx1⟩ : ∃ x1, 1044 + (r0 + rc) + rw1 = x1 := ⟨_, rfl⟩
                obtain ⟨x4, hx4⟩ : ∃ x4, 1044 + rc + rw1 = x4 := ⟨_, rfl⟩
                rw [hx1] at HC1
                rw [hx4] at HC4
                have q3 : decide ((x4 : Int) ≤ (x1 : Int)) = true := by simp; omega
                have q4 : decide (x4 ≤ x1) = true := by simp; omega
                clear hx1 hx4
                go_wp2_with fail
                refine (HC1.out _ HLD.out HBD.out).mono ?_
                rintro e w11 ⟨rfl, hb⟩
                have HB11 := Lib.hid (HBD.out.trans (hb.mono HBD.out.size))
                have HL11 := Lib.hid (Box.below HLD.out hb HLD.out.lt)
                clear hb
                go_wp2_with fail
                refine (HC1.out _ HL11.out HB11.out).mono ?_
                rintro e w15 ⟨rfl, hb⟩
                have HB15 := Lib.hid (HB11.out.trans (hb.mono HB11.out.size))
                have HL15 := Lib.hid (Box.below HL11.out hb HL11.out.lt)
                clear hb
                go_wp2_with fail
                refine (HVA.out (r0 + rc) _ HL15.out HB15.out).mono ?_
                rintro e w14 ⟨rfl, hled, hm⟩
                have HL14 := Lib.hid hled
                have HB14 := Lib.hid (hm.below HB15.out HB15.out.size (fun k hk => Nat.le_of_eq (Eq.symm hk)))
                clear hled hm
                go_wp2_with fail
                refine (HC4.out _ HL14.out HB14.out).mono ?_
                rintro e w17 ⟨rfl, hb⟩
                have HB17 := Lib.hid (HB14.out.trans (hb.mono HB14.out.size))
                have HL17 := Lib.hid (Box.below HL14.out hb HL14.out.lt)
                clear hb
                go_wp2_with (go_at_call 9; refine (lives26_any _).mono ?_; rintro e w16 ⟨rfl, hb⟩; have HB16 := Lib.hid (HB17.out.trans (hb.mono HB17.out.size)); clear hb)
                go_ret
                exact ⟨rfl, HB16.out⟩
end Go.Proofs.Ytkggobndofjclaa
