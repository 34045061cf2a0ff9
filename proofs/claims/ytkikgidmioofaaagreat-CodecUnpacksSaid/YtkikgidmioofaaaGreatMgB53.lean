/- Layer 13: tokens of bytes in memory; a fresh writer. -/
import Derived.Test.YtkikgidmioofaaaGreatMgB52
import Derived.Test.YtkikgidmioofaaaGreatMgB35
import Derived.Test.YtkikgidmioofaaaGreatMgB51
import Derived.Test.YtkikgidmioofaaaGreatMgB37
import Derived.Test.YtkikgidmioofaaaGreatMgB38
import Derived.Test.YtkikgidmioofaaaGreatMgBSBytesIn
import Derived.Test.YtkikgidmioofaaaGreatMgB10
import Derived.OpenShut
namespace Go.Proofs.YtkikgidmioofaaaGreat
open Go.RowKit BitsP SymP

theorem toksOf_tk {w : World} {A : Option Addr} {ts : List Tk} (h : ∀ t ∈ ts, okT t) (hc : Cells w w.heap.size A (ts.map tkC).flatten) : ToksOf w A ts.length ts := by
  refine ⟨h, fun k t ht => ?_, .inl rfl⟩
  have c0 := code_at (tkC_len ts) (j := 0) ht rfl
  have c1 := code_at (tkC_len ts) (j := 1) ht rfl
  have c2 := code_at (tkC_len ts) (j := 2) ht rfl
  obtain ⟨b, o, h1, h2, h3⟩ := hc (by have := (List.getElem?_eq_some_iff.1 c0).1; omega)
  exact ⟨b, o, h1, h2, h3 _ _ c0, by have h4 := h3 _ _ c1; rw [← Nat.add_assoc] at h4; exact h4, by have h4 := h3 _ _ c2; rw [← Nat.add_assoc] at h4; exact h4⟩
end Go.Proofs.YtkikgidmioofaaaGreat
/- Layer 14: a block is unpacked. -/
namespace Go.Proofs.YtkikgidmioofaaaGreat
open Go.RowKit BitsP SymP
attribute [local go_sem ↓] Go.wp_at_zero Go.wp_at_succ

theorem expE_le {most : Int} : ∀ (L : List Ti) (out o : List UInt8), expE most L out = (0, o) → (out.length : Int) ≤ most → (o.length : Int) ≤ most
  | [], out, o, h, h1 => by
    rw [expE] at h
    rw [← (Prod.mk.inj h).2]
    exact h1
  | t :: L, out, o, h, h1 => by
    rw [expE] at h
    split at h
    · cases (Prod.mk.inj h).1
    · rename_i h2
      split at h
      · cases (Prod.mk.inj h).1
      · rename_i h3
        refine expE_le L _ o h ?_
        rw [putT_len out (by cases hk : okX t with | true => rfl | false => exact absurd (.inl hk) h2)]
        omega
/-- What a block is unpacked to, or why it isn't. -/
def unB (F : List Int → List Bool → Int × Int × Nat) (area : List UInt8) (size : Int) : Int × List UInt8 :=
  if (blkF F (unpack area) 0 size).1 ≠ 0 then ((blkF F (unpack area) 0 size).1, [])
  else if (szs (blkF F (unpack area) 0 size).2.1 : Int) ≠ size then (5, [])
  else if 7 < 8 * area.length - (blkF F (unpack area) 0 size).2.2 ∨ numA (unpack area) (blkF F (unpack area) 0 size).2.2 8 ≠ 0 then (3, [])
  else (0, (expE size ((blkF F (unpack area) 0 size).2.1.map ti) []).2)
theorem blkF_many (F : List Int → List Bool → Int × Int × Nat) (L : List Bool) (p : Nat) (most : Int) : (blkF F L p most).2.1.length ≤ L.length + 1 := by
  have key : ∀ (z1 z2 : List Int) (k : Nat) (ts : List Tk) (size p : Nat), (blkL F z1 z2 L most k ts size p).2.1.length ≤ ts.length + k := by
    intro z1 z2 k
    induction k with
    | zero => intro ts size p; exact Nat.zero_le _
    | succ k ih =>
      intro ts size p
      rw [blkL]
      split
      · exact Nat.zero_le _
      split
      · show ts.length ≤ _; omega
      split
      · exact Nat.zero_le _
      split
      · exact Nat.zero_le _
      · split
        · exact Nat.zero_le _
        split
        · exact Nat.zero_le _
        · refine Nat.le_trans (ih _ _ _) ?_
          rw [List.length_append, List.length_singleton]
          omega
  unfold blkF
  split
  · exact Nat.zero_le _
  split
  · exact Nat.zero_le _
  split
  · exact Nat.zero_le _
  split
  · exact Nat.zero_le _
  · refine Nat.le_trans (key _ _ _ _ _ _) ?_
    rw [List.length_nil]
    omega
theorem own_len {w : World} {base : Nat} {v : Value} {n : Nat} {xs : List UInt8} (h : OwnB w base 5 v n xs) : xs.length = n := by
  have h1 := h.1
  rw [byteCells_length, Nat.mul_one] at h1
  exact h1
theorem ti_row {w : World} {A : Option Addr} {B : Nat} {ts : List Tk} (h : Cells w B A (ts.flatMap tcC)) : Cells w B A ((ts.map ti).map tiC).flatten := by
  rw [List.flatMap_def] at h
  rw [List.map_map]
  exact h
set_option maxRecDepth 100000 in
set_option maxHeartbeats 2000000 in
theorem cdunpack_any (F : List Int → List Bool → Int × Int × Nat) (hF : FunT F) (A : Option Addr) (l c : Nat) (bs : List UInt8) (size : Int) (w : World) (hl : bs.length = l) (hm : l ≤ 10000) (h0 : 0 ≤ size) (h1 : size ≤ 65536) (hb : Bytes w w.heap.size A bs) :
    Calls Tryz.prog 26 #[.slice A l c, .int .i64 size] w fun e w' => ∃ A' c', e = .returned (.tuple #[.slice A' (unB F bs size).2.length c', .int .i64 (unB F bs size).1]) ∧ Bytes w' w'.heap.size A' (unB F bs size).2 ∧ Below w.heap.size w w' := by
  have HNEW := Lib.hid (rnew_any A l c w.heap.size bs w hl (by omega) (Nat.le_refl _) hb)
  have HTK : Hid (∀ (W : World) (base g : Nat) (S : Nat → Prop), RdS W g base S bs 0 → _) := fun W base g S hW => blktake_any F hF g base S bs 0 size W hW (by omega) (by omega) (by omega)
  have hlen := blkF_many F (unpack bs) 0 size
  rw [unpack_length, hl] at hlen
  obtain ⟨⟨er, ts, q⟩, hT⟩ : ∃ T, blkF F (unpack bs) 0 size = T := ⟨_, rfl⟩
  have HU : Hid (unB F bs size = if er ≠ 0 then (er, []) else if (szs ts : Int) ≠ size then (5, []) else if 7 < 8 * l - q ∨ numA (unpack bs) q 8 ≠ 0 then (3, []) else (0, (expE size (ts.map ti) []).2)) := by show _ = _; rw [unB, hT, hl]
  rw [hT] at HTK hlen
  dsimp only at hlen
  obtain ⟨n, hn⟩ : ∃ n, ts.length = n := ⟨_, rfl⟩
  have HN := Lib.hid hn
  have HLL := Lib.hid hl
  have hn4 : n ≤ 90000 := by omega
  have HUL : Hid ((unpack bs).length = 8 * l) := by show _ = _; rw [unpack_length, hl]
  by_cases her : er = 0
  rotate_left
  · have HE : Hid (unB F bs size = (er, [])) := by show _ = _; rw [HU.out, if_pos her]
    have v1 : (er != 0) = true := by simpa using her
    clear hb hl hT hlen hn her HU
    rw [HE.out]
    dsimp only
    go_enter Tryz.func26, Tryz.ntmps26
    go_wp2_with (first
      | (go_at_call 52; refine HNEW.out.mono ?_; rintro e w2 ⟨g, S, rfl, hrd2, hb2, hS2⟩; have HB2 := Lib.hid hb2; have HR2 := Lib.hid hrd2; have HG2 : Hid (w.heap.size ≤ g) := hS2 g (rd_low hrd2).2.2; clear hrd2 hb2 hS2)
      | (go_at_call 53; refine (HTK.out w2 w.heap.size g S HR2.out).mono ?_; rintro e w3 ⟨A3, c3, p3, t3, rfl, rfl, hown3, hrd3, hpe3, hm3⟩; dsimp only at hown3 hpe3; dsimp only; rw [HN.out] at hown3; rw [HN.out]; have HO3 := Lib.hid (cells_of_own7 hown3); have HR3 := Lib.hid hrd3; have HPE := Lib.hid hpe3; have HB3 := Lib.hid (hm3.below HB2.out HB2.out.size (fun k hk => by cases hk; exact HG2.out)); clear hown3 hrd3 hpe3 hm3))
    exact bodyPost_ret (results_tmp2 rfl _ _ _) rfl ⟨none, 0, rfl, Cells.nil _ _ _, HB3.out⟩
  subst her
  obtain ⟨out, ho, hol⟩ := blkF_exp hT
  have hle := expE_le _ _ _ ho (by simpa using h0)
  have HEX : Hid (∀ (W : World) (A3 : Option Addr) (c3 : Nat), Cells W W.heap.size A3 (ts.flatMap tcC) → _) := fun W A3 c3 hW => Expand_any A3 n c3 (ts.map ti) size W (by rw [List.length_map]; exact hn) (by omega) (by omega) (by omega) (ti_row hW)
  rw [ho] at HEX HU
  dsimp only at HEX
  rw [if_neg (by simp)] at HU
  obtain ⟨ol, holl⟩ : ∃ ol, out.length = ol := ⟨_, rfl⟩
  have HOL := Lib.hid holl
  rw [← hol, holl] at HU
  rw [holl] at HEX hle
  by_cases hsz : (ol : Int) = size
  rotate_left
  · have HE : Hid (unB F bs size = (5, [])) := by show _ = _; rw [HU.out, if_pos hsz]
    have v2 : decide ((ol : Int) < size) = true := decide_eq_true (by omega)
    clear hb hl hT hlen hn hsz HU hol ho holl
    rw [HE.out]
    dsimp only
    go_enter Tryz.func26, Tryz.ntmps26
    go_wp2_with (first
      | (go_at_call 52; refine HNEW.out.mono ?_; rintro e w2 ⟨g, S, rfl, hrd2, hb2, hS2⟩; have HB2 := Lib.hid hb2; have HR2 := Lib.hid hrd2; have HG2 : Hid (w.heap.size ≤ g) := hS2 g (rd_low hrd2).2.2; clear hrd2 hb2 hS2)
      | (go_at_call 53; refine (HTK.out w2 w.heap.size g S HR2.out).mono ?_; rintro e w3 ⟨A3, c3, p3, t3, rfl, rfl, hown3, hrd3, hpe3, hm3⟩; dsimp only at hown3 hpe3; dsimp only; rw [HN.out] at hown3; rw [HN.out]; have HO3 := Lib.hid (cells_of_own7 hown3); have HR3 := Lib.hid hrd3; have HPE := Lib.hid hpe3; have HB3 := Lib.hid (hm3.below HB2.out HB2.out.size (fun k hk => by cases hk; exact HG2.out)); clear hown3 hrd3 hpe3 hm3)
      | (go_at_call 54; refine (HEX.out w3 A3 c3 HO3.out).mono ?_; rintro e w4 ⟨A4, c4, rfl, hc4, hb4⟩; have HC4 := Lib.hid hc4; have HB4 := Lib.hid (HB3.out.trans (hb4.mono HB3.out.size)); obtain rfl := HPE.out rfl; have HR4 := Lib.hid (HR3.out.keep (Mod.of_below hb4) (fun _ _ h => h)); clear hc4 hb4))
    exact bodyPost_ret (results_tmp2 rfl _ _ _) rfl ⟨none, 0, rfl, Cells.nil _ _ _, HB4.out⟩
  have v2 : decide ((ol : Int) < size) = false := decide_eq_false (by omega)
  rw [if_neg (by omega)] at HU
  obtain ⟨lf, hlf⟩ : ∃ lf, 8 * l - q = lf := ⟨_, rfl⟩
  have HLF := Lib.hid hlf
  rw [hlf] at HU
  by_cases h7 : 7 < lf
  · have HE : Hid (unB F bs size = (3, [])) := by show _ = _; rw [HU.out, if_pos (.inl h7)]
    have v3 : decide ((8 : Int) ≤ (lf : Int)) = true := decide_eq_true (by omega)
    have v3n : decide (8 ≤ lf) = true := decide_eq_true (by omega)
    have v3m : decide ((7 : Int) < (lf : Int)) = true := decide_eq_true (by omega)
    clear hb hl hT hlen hn hsz HU hol ho holl hlf h7
    rw [HE.out]
    dsimp only
    go_enter Tryz.func26, Tryz.ntmps26
    go_wp2_with (first
      | (go_at_call 52; refine HNEW.out.mono ?_; rintro e w2 ⟨g, S, rfl, hrd2, hb2, hS2⟩; have HB2 := Lib.hid hb2; have HR2 := Lib.hid hrd2; have HG2 : Hid (w.heap.size ≤ g) := hS2 g (rd_low hrd2).2.2; clear hrd2 hb2 hS2)
      | (go_at_call 53; refine (HTK.out w2 w.heap.size g S HR2.out).mono ?_; rintro e w3 ⟨A3, c3, p3, t3, rfl, rfl, hown3, hrd3, hpe3, hm3⟩; dsimp only at hown3 hpe3; dsimp only; rw [HN.out] at hown3; rw [HN.out]; have HO3 := Lib.hid (cells_of_own7 hown3); have HR3 := Lib.hid hrd3; have HPE := Lib.hid hpe3; have HB3 := Lib.hid (hm3.below HB2.out HB2.out.size (fun k hk => by cases hk; exact HG2.out)); clear hown3 hrd3 hpe3 hm3)
      | (go_at_call 54; refine (HEX.out w3 A3 c3 HO3.out).mono ?_; rintro e w4 ⟨A4, c4, rfl, hc4, hb4⟩; have HC4 := Lib.hid hc4; have HB4 := Lib.hid (HB3.out.trans (hb4.mono HB3.out.size)); obtain rfl := HPE.out rfl; have HR4 := Lib.hid (HR3.out.keep (Mod.of_below hb4) (fun _ _ h => h)); clear hc4 hb4)
      | (go_at_call 55; refine (rleft_any g w.heap.size S bs _ w4 HR4.out (by rw [HLL.out]; omega)).mono ?_; rintro e w' ⟨rfl, nl, rfl⟩; rw [HLL.out, HLF.out]; have HR5 := Lib.hid (HR4.out.drewN nl); clear HR4))
    exact bodyPost_ret (results_tmp2 rfl _ _ _) rfl ⟨none, 0, rfl, Cells.nil _ _ _, Below.drewN HB4.out nl⟩
  have v3 : decide ((8 : Int) ≤ (lf : Int)) = false := decide_eq_false (by omega)
  have v3n : decide (8 ≤ lf) = false := decide_eq_false (by omega)
  have v3m : decide ((7 : Int) < (lf : Int)) = false := decide_eq_false (by omega)
  have hlf7 : lf ≤ 7 := by omega
  have HPN : Hid (num (((unpack bs).drop q).take lf) = numA (unpack bs) q 8) := by
    show _ = _
    unfold numA
    rw [List.take_of_length_le (by rw [List.length_drop, HUL.out]; omega), List.take_of_length_le (by rw [List.length_drop, HUL.out]; omega)]
  obtain ⟨nm, hnm⟩ : ∃ nm, numA (unpack bs) q 8 = nm := ⟨_, rfl⟩
  rw [hnm] at HPN HU
  by_cases hz : nm = 0
  · have HE : Hid (unB F bs size = (0, out)) := by show _ = _; rw [HU.out, if_neg (by omega)]
    have v4 : ((nm : Int) != 0) = false := by simp [hz]
    clear hb hl hT hlen hn hsz HU hol ho holl hlf h7 hnm hz
    rw [HE.out]
    dsimp only
    rw [HOL.out]
    go_enter Tryz.func26, Tryz.ntmps26
    go_wp2_with (first
      | (go_at_call 52; refine HNEW.out.mono ?_; rintro e w2 ⟨g, S, rfl, hrd2, hb2, hS2⟩; have HB2 := Lib.hid hb2; have HR2 := Lib.hid hrd2; have HG2 : Hid (w.heap.size ≤ g) := hS2 g (rd_low hrd2).2.2; clear hrd2 hb2 hS2)
      | (go_at_call 53; refine (HTK.out w2 w.heap.size g S HR2.out).mono ?_; rintro e w3 ⟨A3, c3, p3, t3, rfl, rfl, hown3, hrd3, hpe3, hm3⟩; dsimp only at hown3 hpe3; dsimp only; rw [HN.out] at hown3; rw [HN.out]; have HO3 := Lib.hid (cells_of_own7 hown3); have HR3 := Lib.hid hrd3; have HPE := Lib.hid hpe3; have HB3 := Lib.hid (hm3.below HB2.out HB2.out.size (fun k hk => by cases hk; exact HG2.out)); clear hown3 hrd3 hpe3 hm3)
      | (go_at_call 54; refine (HEX.out w3 A3 c3 HO3.out).mono ?_; rintro e w4 ⟨A4, c4, rfl, hc4, hb4⟩; have HC4 := Lib.hid hc4; have HB4 := Lib.hid (HB3.out.trans (hb4.mono HB3.out.size)); obtain rfl := HPE.out rfl; have HR4 := Lib.hid (HR3.out.keep (Mod.of_below hb4) (fun _ _ h => h)); clear hc4 hb4)
      | (go_at_call 55; refine (rleft_any g w.heap.size S bs _ w4 HR4.out (by rw [HLL.out]; omega)).mono ?_; rintro e w' ⟨rfl, nl, rfl⟩; rw [HLL.out, HLF.out]; have HR5 := Lib.hid (HR4.out.drewN nl); clear HR4)
      | (go_at_call 55; refine (rleft_any g w.heap.size S bs _ (w4.drewN nl) HR5.out (by rw [HLL.out]; omega)).mono ?_; rintro e w' ⟨rfl, nl2, rfl⟩; rw [HLL.out, HLF.out]; have HR6 := Lib.hid (HR5.out.drewN nl2); clear HR5)
      | (go_at_call 56; refine (rpeek_any g w.heap.size S bs p3 (lf : Int) _ ?_ (by rw [HLL.out]; omega) (by omega) (by omega)).mono ?_; (exact HR6.out); rintro e w' ⟨rfl, np, rfl⟩; rw [cnt_nat (k := lf) (by omega), HPN.out]))
    exact bodyPost_ret (results_tmp2 rfl _ _ _) rfl ⟨A4, c4, rfl, HC4.out, Below.drewN HB4.out (nl + nl2 + np)⟩
  · have HE : Hid (unB F bs size = (3, [])) := by show _ = _; rw [HU.out, if_pos (.inr hz)]
    have v4 : ((nm : Int) != 0) = true := by simpa using hz
    clear hb hl hT hlen hn hsz HU hol ho holl hlf h7 hnm hz
    rw [HE.out]
    dsimp only
    go_enter Tryz.func26, Tryz.ntmps26
    go_wp2_with (first
      | (go_at_call 52; refine HNEW.out.mono ?_; rintro e w2 ⟨g, S, rfl, hrd2, hb2, hS2⟩; have HB2 := Lib.hid hb2; have HR2 := Lib.hid hrd2; have HG2 : Hid (w.heap.size ≤ g) := hS2 g (rd_low hrd2).2.2; clear hrd2 hb2 hS2)
      | (go_at_call 53; refine (HTK.out w2 w.heap.size g S HR2.out).mono ?_; rintro e w3 ⟨A3, c3, p3, t3, rfl, rfl, hown3, hrd3, hpe3, hm3⟩; dsimp only at hown3 hpe3; dsimp only; rw [HN.out] at hown3; rw [HN.out]; have HO3 := Lib.hid (cells_of_own7 hown3); have HR3 := Lib.hid hrd3; have HPE := Lib.hid hpe3; have HB3 := Lib.hid (hm3.below HB2.out HB2.out.size (fun k hk => by cases hk; exact HG2.out)); clear hown3 hrd3 hpe3 hm3)
      | (go_at_call 54; refine (HEX.out w3 A3 c3 HO3.out).mono ?_; rintro e w4 ⟨A4, c4, rfl, hc4, hb4⟩; have HC4 := Lib.hid hc4; have HB4 := Lib.hid (HB3.out.trans (hb4.mono HB3.out.size)); obtain rfl := HPE.out rfl; have HR4 := Lib.hid (HR3.out.keep (Mod.of_below hb4) (fun _ _ h => h)); clear hc4 hb4)
      | (go_at_call 55; refine (rleft_any g w.heap.size S bs _ w4 HR4.out (by rw [HLL.out]; omega)).mono ?_; rintro e w' ⟨rfl, nl, rfl⟩; rw [HLL.out, HLF.out]; have HR5 := Lib.hid (HR4.out.drewN nl); clear HR4)
      | (go_at_call 55; refine (rleft_any g w.heap.size S bs _ (w4.drewN nl) HR5.out (by rw [HLL.out]; omega)).mono ?_; rintro e w' ⟨rfl, nl2, rfl⟩; rw [HLL.out, HLF.out]; have HR6 := Lib.hid (HR5.out.drewN nl2); clear HR5)
      | (go_at_call 56; refine (rpeek_any g w.heap.size S bs p3 (lf : Int) _ ?_ (by rw [HLL.out]; omega) (by omega) (by omega)).mono ?_; (exact HR6.out); rintro e w' ⟨rfl, np, rfl⟩; rw [cnt_nat (k := lf) (by omega), HPN.out]))
    exact bodyPost_ret (results_tmp2 rfl _ _ _) rfl ⟨none, 0, rfl, Cells.nil _ _ _, Below.drewN HB4.out (nl + nl2 + np)⟩
end Go.Proofs.YtkikgidmioofaaaGreat
/- Layer 14: the reference's Unpack, and the program's, of any method. -/
namespace Go.Proofs.YtkikgidmioofaaaGreat
open Go.RowKit BitsP SymP
attribute [local go_sem ↓] Go.wp_at_zero Go.wp_at_succ

/-- What a payload of a method is unpacked to, or why it isn't. -/
def unM (F : List Int → List Bool → Int × Int × Nat) (m : Int) (area : List UInt8) (size : Int) : Int × List UInt8 :=
  if m < 0 ∨ 2 < m then (1, []) else if size < 0 ∨ 65536 < size then (5, []) else if m = 1 then unB F area size
  else if m = 2 then (if (pcA area).2 ≠ 0 then ((pcA area).2, []) else if ((pcA area).1.flatten.length : Int) ≠ size then (5, []) else (0, (pcA area).1.flatten))
  else if (area.length : Int) ≠ size then (5, []) else (0, area)
/-- What Unpack answers. -/
def UnQ (w : World) (t : Int × List UInt8) (e : Ending) (w' : World) : Prop := ∃ A' c', e = .returned (.tuple #[.slice A' t.2.length c', .int .i64 t.1]) ∧ Bytes w' w'.heap.size A' t.2 ∧ Below w.heap.size w w'
theorem UnQ.err {w w' : World} {er : Int} {t : Int × List UInt8} (ht : t = (er, [])) (hb : Below w.heap.size w w') : UnQ w t (.returned (.tuple #[.slice none 0 0, .int .i64 er])) w' := by
  subst ht
  exact ⟨none, 0, rfl, Cells.nil _ _ _, hb⟩
set_option maxRecDepth 100000 in
set_option maxHeartbeats 1000000 in
theorem cdUnpack_any (F : List Int → List Bool → Int × Int × Nat) (hF : FunT F) (A : Option Addr) (l c : Nat) (bs : List UInt8) (m size : Int) (w : World) (hl : bs.length = l) (hm : l ≤ 1000000) (hmb : m = 1 → l ≤ 10000) (hc : l ≤ c) (hb : Bytes w w.heap.size A bs) :
    Calls Tryz.prog 11 #[.int .i64 m, .slice A l c, .int .i64 size] w (UnQ w (unM F m bs size)) := by
  by_cases hm1 : m < 0 ∨ 2 < m
  · have HE : Hid (unM F m bs size = (1, [])) := by show _ = _; rw [unM, if_pos hm1]
    clear hb hl
    rcases hm1 with h | h
    · have t1 : decide (m < 0) = true := decide_eq_true h
      clear h
      go_enter Tryz.func11, Tryz.ntmps11
      go_wp2
      refine bodyPost_ret (results_tmp2 rfl _ _ _) rfl ?_
      exact (UnQ.err HE.out (Below.refl _ _))
    · have t1 : decide (m < 0) = false := decide_eq_false (by omega)
      have t2 : decide (2 < m) = true := decide_eq_true h
      clear h
      go_enter Tryz.func11, Tryz.ntmps11
      go_wp2
      refine bodyPost_ret (results_tmp2 rfl _ _ _) rfl ?_
      exact (UnQ.err HE.out (Below.refl _ _))
  have t1 : decide (m < 0) = false := decide_eq_false (by omega)
  have t2 : decide (2 < m) = false := decide_eq_false (by omega)
  by_cases hs1 : size < 0 ∨ 65536 < size
  · have HE : Hid (unM F m bs size = (5, [])) := by show _ = _; rw [unM, if_neg hm1, if_pos hs1]
    clear hb hl hm1
    rcases hs1 with h | h
    · have t3 : decide (size < 0) = true := decide_eq_true h
      clear h
      go_enter Tryz.func11, Tryz.ntmps11
      go_wp2
      refine bodyPost_ret (results_tmp2 rfl _ _ _) rfl ?_
      exact (UnQ.err HE.out (Below.refl _ _))
    · have t3 : decide (size < 0) = false := decide_eq_false (by omega)
      have t4 : decide (65536 < size) = true := decide_eq_true h
      clear h
      go_enter Tryz.func11, Tryz.ntmps11
      go_wp2
      refine bodyPost_ret (results_tmp2 rfl _ _ _) rfl ?_
      exact (UnQ.err HE.out (Below.refl _ _))
  have t3 : decide (size < 0) = false := decide_eq_false (by omega)
  have t4 : decide (65536 < size) = false := decide_eq_false (by omega)
  by_cases hone : m = 1
  · have HE : Hid (unM F m bs size = unB F bs size) := by show _ = _; rw [unM, if_neg hm1, if_neg hs1, if_pos hone]
    have HU := Lib.hid (cdunpack_any F hF A l c bs size w hl (hmb hone) (by omega) (by omega) hb)
    have t5 : (m == 1) = true := by simpa using hone
    rw [HE.out]
    obtain ⟨T, hT⟩ : ∃ T, unB F bs size = T := ⟨_, rfl⟩
    rw [hT] at HU ⊢
    clear hb hl hm1 hs1 hone hT HE
    go_enter Tryz.func11, Tryz.ntmps11
    go_wp2_with (go_at_call 26; refine HU.out.mono ?_; rintro e w2 ⟨A2, c2, rfl, hc2, hb2⟩; have HC2 := Lib.hid hc2; have HB2 := Lib.hid hb2; clear hc2 hb2)
    refine bodyPost_ret (results_tmp2 rfl _ _ _) rfl ?_
    exact ⟨A2, c2, rfl, HC2.out, HB2.out⟩
  have t5 : (m == 1) = false := by simpa using hone
  have HCL := Lib.hid (clone_any A l c w.heap.size bs w hl (by omega) (Nat.le_refl _) hb)
  by_cases htwo : m = 2
  · have t6 : (m == 2) = true := by simpa using htwo
    have HP : Hid (∀ W, Below w.heap.size w W → _) := fun W hW => piecesOf_any A l c W.heap.size bs W hl (by omega) hc ((hb.below hW (Nat.le_refl _)).more hW.size) (Nat.le_refl _)
    obtain ⟨⟨ps, er⟩, hT⟩ : ∃ T, pcA bs = T := ⟨_, rfl⟩
    have HU : Hid (unM F m bs size = if er ≠ 0 then (er, []) else if (ps.flatten.length : Int) ≠ size then (5, []) else (0, ps.flatten)) := by show _ = _; rw [unM, if_neg hm1, if_neg hs1, if_neg hone, if_pos htwo, hT]
    rw [hT] at HP
    dsimp only at HP
    by_cases her : er = 0
    rotate_left
    · have HE : Hid (unM F m bs size = (er, [])) := by show _ = _; rw [HU.out, if_pos her]
      have v1 : (er != 0) = true := by simpa using her
      clear hb hl hm1 hs1 hone htwo hT her HU
      go_enter Tryz.func11, Tryz.ntmps11
      go_wp2_with (first
        | (go_at_call 22; refine HCL.out.mono ?_; rintro e w2 ⟨A2, c2, rfl, hown2, hb2⟩; have HO2 := Lib.hid hown2; have HB2 := Lib.hid hb2; clear hown2 hb2)
        | (go_at_call 16; refine (HP.out w2 HB2.out).mono ?_; rintro e w3 ⟨v3, n3, cp3, A3, rfl, rfl, _, _, hb3⟩; have HB3 := Lib.hid (HB2.out.trans (hb3.mono HB2.out.size)); clear hb3))
      refine bodyPost_ret (results_tmp2 rfl _ _ _) rfl ?_
      exact (UnQ.err HE.out HB3.out)
    subst her
    rw [if_neg (by simp)] at HU
    obtain ⟨R, hR⟩ : ∃ R, ps.flatten = R := ⟨_, rfl⟩
    rw [hR] at HP HU
    obtain ⟨rl, hrl⟩ : ∃ rl, R.length = rl := ⟨_, rfl⟩
    have HRL := Lib.hid hrl
    rw [hrl] at HU
    by_cases hsz : (rl : Int) = size
    · have HE : Hid (unM F m bs size = (0, R)) := by show _ = _; rw [HU.out, if_neg (by omega)]
      have v2 : ((rl : Int) != size) = false := by simpa using hsz
      clear hb hl hm1 hs1 hone htwo hT HU hR hrl hsz
      rw [HE.out]
      go_enter Tryz.func11, Tryz.ntmps11
      go_wp2_with (first
        | (go_at_call 22; refine HCL.out.mono ?_; rintro e w2 ⟨A2, c2, rfl, hown2, hb2⟩; have HO2 := Lib.hid hown2; have HB2 := Lib.hid hb2; clear hown2 hb2)
        | (go_at_call 16; refine (HP.out w2 HB2.out).mono ?_; rintro e w3 ⟨v3, n3, cp3, A3, rfl, rfl, hown, _, hb3⟩; have hown2 := hown (by first | rfl | trivial); obtain rfl : n3 = rl := (own_len hown2).symm.trans HRL.out; have HO3 := Lib.hid hown2; have HB3 := Lib.hid (HB2.out.trans (hb3.mono HB2.out.size)); clear hown hown2 hb3))
      refine bodyPost_ret (results_tmp2 rfl _ _ _) rfl ?_
      exact ⟨A3, cp3, by rw [HRL.out]; rfl, Cells.of_own HO3.out, HB3.out⟩
    · have HE : Hid (unM F m bs size = (5, [])) := by show _ = _; rw [HU.out, if_pos hsz]
      have v2 : ((rl : Int) != size) = true := by simpa using hsz
      clear hb hl hm1 hs1 hone htwo hT HU hR hrl hsz
      go_enter Tryz.func11, Tryz.ntmps11
      go_wp2_with (first
        | (go_at_call 22; refine HCL.out.mono ?_; rintro e w2 ⟨A2, c2, rfl, hown2, hb2⟩; have HO2 := Lib.hid hown2; have HB2 := Lib.hid hb2; clear hown2 hb2)
        | (go_at_call 16; refine (HP.out w2 HB2.out).mono ?_; rintro e w3 ⟨v3, n3, cp3, A3, rfl, rfl, hown, _, hb3⟩; have hown2 := hown (by first | rfl | trivial); obtain rfl : n3 = rl := (own_len hown2).symm.trans HRL.out; have HO3 := Lib.hid hown2; have HB3 := Lib.hid (HB2.out.trans (hb3.mono HB2.out.size)); clear hown hown2 hb3))
      refine bodyPost_ret (results_tmp2 rfl _ _ _) rfl ?_
      exact (UnQ.err HE.out HB3.out)
  have t6 : (m == 2) = false := by simpa using htwo
  have HU : Hid (unM F m bs size = if (l : Int) ≠ size then (5, []) else (0, bs)) := by show _ = _; rw [unM, if_neg hm1, if_neg hs1, if_neg hone, if_neg htwo, hl]
  have HLL := Lib.hid hl
  by_cases hsz : (l : Int) = size
  · have HE : Hid (unM F m bs size = (0, bs)) := by show _ = _; rw [HU.out, if_neg (by omega)]
    have v2 : ((l : Int) != size) = false := by simpa using hsz
    clear hb hl hm1 hs1 hone htwo HU hsz
    rw [HE.out]
    go_enter Tryz.func11, Tryz.ntmps11
    go_wp2_with (first
        | (go_at_call 22; refine HCL.out.mono ?_; rintro e w2 ⟨A2, c2, rfl, hown2, hb2⟩; have HO2 := Lib.hid hown2; have HB2 := Lib.hid hb2; clear hown2 hb2))
    refine bodyPost_ret (results_tmp2 rfl _ _ _) rfl ?_
    exact ⟨A2, c2, by rw [HLL.out]; rfl, Cells.of_own HO2.out, HB2.out⟩
  · have HE : Hid (unM F m bs size = (5, [])) := by show _ = _; rw [HU.out, if_pos hsz]
    have v2 : ((l : Int) != size) = true := by simpa using hsz
    clear hb hl hm1 hs1 hone htwo HU hsz
    go_enter Tryz.func11, Tryz.ntmps11
    go_wp2_with (first
        | (go_at_call 22; refine HCL.out.mono ?_; rintro e w2 ⟨A2, c2, rfl, hown2, hb2⟩; have HO2 := Lib.hid hown2; have HB2 := Lib.hid hb2; clear hown2 hb2))
    refine bodyPost_ret (results_tmp2 rfl _ _ _) rfl ?_
    exact (UnQ.err HE.out HB2.out)
set_option maxRecDepth 100000 in
set_option maxHeartbeats 2000000 in
theorem rdUnpack_any (F : List Int → List Bool → Int × Int × Nat) (hF : FunT F) (A : Option Addr) (l c : Nat) (bs : List UInt8) (m size : Int) (w : World) (hl : bs.length = l) (hm : l ≤ 10000) (hc : l ≤ c) (hb : Bytes w w.heap.size A bs) :
    Calls Tryz.prog 12 #[.int .i64 m, .slice A l c, .int .i64 size] w (UnQ w (unM F m bs size)) := by
  have HBY := Lib.hid hb
  by_cases hm1 : m < 0 ∨ 2 < m
  · have HE : Hid (unM F m bs size = (1, [])) := by show _ = _; rw [unM, if_pos hm1]
    clear hb hl
    rcases hm1 with h | h
    · have t1 : decide (m < 0) = true := decide_eq_true h
      clear h
      go_enter Tryz.func12, Tryz.ntmps12
      go_wp2
      refine bodyPost_ret (results_tmp2 rfl _ _ _) rfl ?_
      exact (UnQ.err HE.out (Below.refl _ _))
    · have t1 : decide (m < 0) = false := decide_eq_false (by omega)
      have t2 : decide (2 < m) = true := decide_eq_true h
      clear h
      go_enter Tryz.func12, Tryz.ntmps12
      go_wp2
      refine bodyPost_ret (results_tmp2 rfl _ _ _) rfl ?_
      exact (UnQ.err HE.out (Below.refl _ _))
  have t1 : decide (m < 0) = false := decide_eq_false (by omega)
  have t2 : decide (2 < m) = false := decide_eq_false (by omega)
  by_cases hs1 : size < 0 ∨ 65536 < size
  · have HE : Hid (unM F m bs size = (5, [])) := by show _ = _; rw [unM, if_neg hm1, if_pos hs1]
    clear hb hl hm1
    rcases hs1 with h | h
    · have t3 : decide (size < 0) = true := decide_eq_true h
      clear h
      go_enter Tryz.func12, Tryz.ntmps12
      go_wp2
      refine bodyPost_ret (results_tmp2 rfl _ _ _) rfl ?_
      exact (UnQ.err HE.out (Below.refl _ _))
    · have t3 : decide (size < 0) = false := decide_eq_false (by omega)
      have t4 : decide (65536 < size) = true := decide_eq_true h
      clear h
      go_enter Tryz.func12, Tryz.ntmps12
      go_wp2
      refine bodyPost_ret (results_tmp2 rfl _ _ _) rfl ?_
      exact (UnQ.err HE.out (Below.refl _ _))
  have t3 : decide (size < 0) = false := decide_eq_false (by omega)
  have t4 : decide (65536 < size) = false := decide_eq_false (by omega)
  by_cases hone : m = 1
  · have HE0 : Hid (unM F m bs size = unB F bs size) := by show _ = _; rw [unM, if_neg hm1, if_neg hs1, if_pos hone]
    have t5 : (m == 1) = true := by simpa using hone
    rw [HE0.out]
    have HUP := Lib.hid (refUnpack_any A l c bs w hl (by omega) hb)
    have hun : (unpack bs).length = 8 * l := by rw [unpack_length, hl]
    have HRT : Hid (∀ (W : World) (A6 : Option Addr) (c6 : Nat), 8 * l ≤ c6 → Bytes W W.heap.size A6 (bitBytes (unpack bs)) → Calls Tryz.prog 28 #[.slice A6 (8 * l) c6, .int .i64 0, .int .i64 size] W (RtQ W (8 * l) (blkF F (unpack bs) 0 size))) := fun W A6 c6 hc hbb => rtake13_any F hF A6 (8 * l) c6 (unpack bs) 0 size W hun (by omega) hc hbb (Nat.zero_le _) (by omega) (by omega)
    have HNU : Hid (∀ (W : World) (A6 : Option Addr) (c6 a : Nat), a ≤ 8 * l → Bytes W W.heap.size A6 (bitBytes (unpack bs)) → Calls Tryz.prog 29 #[.slice A6 (8 * l) c6, .int .i64 (a : Int), .int .i64 8] W fun e w' => e = .returned (.int .u32 (numA (unpack bs) a 8 : Nat)) ∧ W = w') := fun W A6 c6 a ha hbb => by
      have h := refNumber_any A6 (8 * l) c6 W.heap.size (unpack bs) a ((8 : Nat) : Int) W hun (by omega) (by omega) (by omega) (by omega) hbb
      rw [cnt_nat (by omega)] at h
      exact h
    have hlen := blkF_many F (unpack bs) 0 size
    rw [hun] at hlen
    obtain ⟨⟨er, ts, q⟩, hT⟩ : ∃ T, blkF F (unpack bs) 0 size = T := ⟨_, rfl⟩
    have HU : Hid (unB F bs size = if er ≠ 0 then (er, []) else if (szs ts : Int) ≠ size then (5, []) else if 7 < 8 * l - q ∨ numA (unpack bs) q 8 ≠ 0 then (3, []) else (0, (expE size (ts.map ti) []).2)) := by show _ = _; rw [unB, hT, hl]
    rw [hT] at HRT hlen
    dsimp only at hlen
    obtain ⟨n, hn⟩ : ∃ n, ts.length = n := ⟨_, rfl⟩
    have HN := Lib.hid hn
    have hn4 : n ≤ 90000 := by omega
    have HEX : Hid (∀ (W : World) (A3 : Option Addr) (c3 : Nat), Cells W W.heap.size A3 (ts.flatMap tcC) → _) := fun W A3 c3 hW => rExpand_any A3 n c3 (ts.map ti) size W (by rw [List.length_map]; exact hn) (by omega) (by omega) (by omega) (ti_row hW)
    by_cases her : er = 0
    rotate_left
    · have HE : Hid (unB F bs size = (er, [])) := by show _ = _; rw [HU.out, if_pos her]
      have v1 : (er != 0) = true := by simpa using her
      clear hb hl hm1 hs1 hone hT hlen hn her HU HE0 hun
      go_enter Tryz.func12, Tryz.ntmps12
      go_upto_region 9 with (first
        | (go_at_call 27; refine HUP.out.mono ?_; rintro e w2 ⟨A2, c2, rfl, hown2, hb2⟩; have HCP := Lib.hid (own_capT hown2); have HY2 := Lib.hid (Cells.of_own hown2); have HB2 := Lib.hid hb2; clear hown2 hb2)
        | (go_at_call 28; refine (HRT.out w2 A2 c2 HCP.out HY2.out).mono ?_; rintro e w3 ⟨A3, c3, sz3, at3, rfl, hok3, hown3, hb3⟩; dsimp only at hok3 hown3; dsimp only; rw [HN.out] at hown3; rw [HN.out]; have hb4 : Below w3.heap.size w3 (w3.alloc (.cells #[.slice A3 n c3, .int .i64 (sz3 : Int), .int .i64 (at3 : Int), .int .i64 er] 52)) := (Below.refl _ w3).alloc (Nat.le_refl _) _; obtain ⟨W4, hW4⟩ : ∃ W4, w3.alloc (.cells #[.slice A3 n c3, .int .i64 (sz3 : Int), .int .i64 (at3 : Int), .int .i64 er] 52) = W4 := ⟨_, rfl⟩; have hx4 : W4.heap[w3.heap.size]? = some (.cells #[.slice A3 n c3, .int .i64 (sz3 : Int), .int .i64 (at3 : Int), .int .i64 er] 52 (0, 0)) := (by rw [← hW4]; exact heap_alloc_new w3 _); rw [hW4] at hb4; have HOK := Lib.hid hok3; have HB4 := Lib.hid ((HB2.out.trans (hb3.mono HB2.out.size)).trans (hb4.mono (Nat.le_trans HB2.out.size hb3.size))); have HO34 := Lib.hid ((Cells.below (cells_of_own7 hown3) hb4 (Nat.le_refl _)).more hb4.size); have HY24 := Lib.hid (((HY2.out.below hb3 (Nat.le_refl _)).below hb4 hb3.size).more (Nat.le_trans hb3.size hb4.size)); have HW4 := Lib.hid hW4; clear hok3 hown3 hb3 hb4 hW4))
      rw [HW4.out]
      have g0 : W4.cell? ⟨w3.heap.size, 0, none⟩ = some (.slice A3 n c3) := cell_of_row _ _ 0 _ _ _ hx4
      have g1 : W4.cell? ⟨w3.heap.size, 1, none⟩ = some (.int .i64 (sz3 : Int)) := cell_of_row _ _ 1 _ _ _ hx4
      have g2 : W4.cell? ⟨w3.heap.size, 2, none⟩ = some (.int .i64 (at3 : Int)) := cell_of_row _ _ 2 _ _ _ hx4
      have g3 : W4.cell? ⟨w3.heap.size, 3, none⟩ = some (.int .i64 er) := cell_of_row _ _ 3 _ _ _ hx4
      clear hx4 HW4
      go_upto_region 10 with fail
      go_region
      go_wp2
      refine bodyPost_ret (results_tmp2 rfl _ _ _) rfl ?_
      exact (UnQ.err HE.out HB4.out.drew)
    subst her
    obtain ⟨out, ho, hol⟩ := blkF_exp hT
    rw [ho] at HEX HU
    dsimp only at HEX
    rw [if_neg (by simp)] at HU
    obtain ⟨ol, holl⟩ : ∃ ol, szs ts = ol := ⟨_, rfl⟩
    have HOL := Lib.hid holl
    have HOL2 : Hid (out.length = ol) := hol.trans holl
    rw [holl] at HU
    by_cases hsz : (ol : Int) = size
    rotate_left
    · have HE : Hid (unB F bs size = (5, [])) := by show _ = _; rw [HU.out, if_pos hsz]
      have v2 : ((ol : Int) != size) = true := by simpa using hsz
      clear hb hl hm1 hs1 hone hT hlen hn HU HE0 hun ho hol holl hsz
      go_enter Tryz.func12, Tryz.ntmps12
      go_upto_region 9 with (first
        | (go_at_call 27; refine HUP.out.mono ?_; rintro e w2 ⟨A2, c2, rfl, hown2, hb2⟩; have HCP := Lib.hid (own_capT hown2); have HY2 := Lib.hid (Cells.of_own hown2); have HB2 := Lib.hid hb2; clear hown2 hb2)
        | (go_at_call 28; refine (HRT.out w2 A2 c2 HCP.out HY2.out).mono ?_; rintro e w3 ⟨A3, c3, sz3, at3, rfl, hok3, hown3, hb3⟩; dsimp only at hok3 hown3; dsimp only; rw [HN.out] at hown3; rw [HN.out]; have hb4 : Below w3.heap.size w3 (w3.alloc (.cells #[.slice A3 n c3, .int .i64 (sz3 : Int), .int .i64 (at3 : Int), .int .i64 0] 52)) := (Below.refl _ w3).alloc (Nat.le_refl _) _; obtain ⟨W4, hW4⟩ : ∃ W4, w3.alloc (.cells #[.slice A3 n c3, .int .i64 (sz3 : Int), .int .i64 (at3 : Int), .int .i64 0] 52) = W4 := ⟨_, rfl⟩; have hx4 : W4.heap[w3.heap.size]? = some (.cells #[.slice A3 n c3, .int .i64 (sz3 : Int), .int .i64 (at3 : Int), .int .i64 0] 52 (0, 0)) := (by rw [← hW4]; exact heap_alloc_new w3 _); rw [hW4] at hb4; have HOK := Lib.hid hok3; have HB4 := Lib.hid ((HB2.out.trans (hb3.mono HB2.out.size)).trans (hb4.mono (Nat.le_trans HB2.out.size hb3.size))); have HO34 := Lib.hid ((Cells.below (cells_of_own7 hown3) hb4 (Nat.le_refl _)).more hb4.size); have HY24 := Lib.hid (((HY2.out.below hb3 (Nat.le_refl _)).below hb4 hb3.size).more (Nat.le_trans hb3.size hb4.size)); have HW4 := Lib.hid hW4; clear hok3 hown3 hb3 hb4 hW4))
      rw [HW4.out]
      have g0 : W4.cell? ⟨w3.heap.size, 0, none⟩ = some (.slice A3 n c3) := cell_of_row _ _ 0 _ _ _ hx4
      have g1 : W4.cell? ⟨w3.heap.size, 1, none⟩ = some (.int .i64 (sz3 : Int)) := cell_of_row _ _ 1 _ _ _ hx4
      have g2 : W4.cell? ⟨w3.heap.size, 2, none⟩ = some (.int .i64 (at3 : Int)) := cell_of_row _ _ 2 _ _ _ hx4
      have g3 : W4.cell? ⟨w3.heap.size, 3, none⟩ = some (.int .i64 0) := cell_of_row _ _ 3 _ _ _ hx4
      clear hx4 HW4
      obtain ⟨hq1, rfl, hq8⟩ := HOK.out rfl
      obtain rfl := hq1.trans HOL.out
      go_wp2
      refine bodyPost_ret (results_tmp2 rfl _ _ _) rfl ?_
      exact (UnQ.err HE.out HB4.out)
    have v2 : ((ol : Int) != size) = false := by simpa using hsz
    rw [if_neg (by omega)] at HU
    by_cases h7 : 7 < 8 * l - q
    · have HE : Hid (unB F bs size = (3, [])) := by show _ = _; rw [HU.out, if_pos (.inl h7)]
      have v3 : decide ((7 : Int) < 8 * (l : Int) - (q : Int)) = true := decide_eq_true (by omega)
      clear hb hl hm1 hs1 hone hT hlen hn HU HE0 hun ho hol holl hsz h7
      go_enter Tryz.func12, Tryz.ntmps12
      go_upto_region 9 with (first
        | (go_at_call 27; refine HUP.out.mono ?_; rintro e w2 ⟨A2, c2, rfl, hown2, hb2⟩; have HCP := Lib.hid (own_capT hown2); have HY2 := Lib.hid (Cells.of_own hown2); have HB2 := Lib.hid hb2; clear hown2 hb2)
        | (go_at_call 28; refine (HRT.out w2 A2 c2 HCP.out HY2.out).mono ?_; rintro e w3 ⟨A3, c3, sz3, at3, rfl, hok3, hown3, hb3⟩; dsimp only at hok3 hown3; dsimp only; rw [HN.out] at hown3; rw [HN.out]; have hb4 : Below w3.heap.size w3 (w3.alloc (.cells #[.slice A3 n c3, .int .i64 (sz3 : Int), .int .i64 (at3 : Int), .int .i64 0] 52)) := (Below.refl _ w3).alloc (Nat.le_refl _) _; obtain ⟨W4, hW4⟩ : ∃ W4, w3.alloc (.cells #[.slice A3 n c3, .int .i64 (sz3 : Int), .int .i64 (at3 : Int), .int .i64 0] 52) = W4 := ⟨_, rfl⟩; have hx4 : W4.heap[w3.heap.size]? = some (.cells #[.slice A3 n c3, .int .i64 (sz3 : Int), .int .i64 (at3 : Int), .int .i64 0] 52 (0, 0)) := (by rw [← hW4]; exact heap_alloc_new w3 _); rw [hW4] at hb4; have HOK := Lib.hid hok3; have HB4 := Lib.hid ((HB2.out.trans (hb3.mono HB2.out.size)).trans (hb4.mono (Nat.le_trans HB2.out.size hb3.size))); have HO34 := Lib.hid ((Cells.below (cells_of_own7 hown3) hb4 (Nat.le_refl _)).more hb4.size); have HY24 := Lib.hid (((HY2.out.below hb3 (Nat.le_refl _)).below hb4 hb3.size).more (Nat.le_trans hb3.size hb4.size)); have HW4 := Lib.hid hW4; clear hok3 hown3 hb3 hb4 hW4))
      rw [HW4.out]
      have g0 : W4.cell? ⟨w3.heap.size, 0, none⟩ = some (.slice A3 n c3) := cell_of_row _ _ 0 _ _ _ hx4
      have g1 : W4.cell? ⟨w3.heap.size, 1, none⟩ = some (.int .i64 (sz3 : Int)) := cell_of_row _ _ 1 _ _ _ hx4
      have g2 : W4.cell? ⟨w3.heap.size, 2, none⟩ = some (.int .i64 (at3 : Int)) := cell_of_row _ _ 2 _ _ _ hx4
      have g3 : W4.cell? ⟨w3.heap.size, 3, none⟩ = some (.int .i64 0) := cell_of_row _ _ 3 _ _ _ hx4
      clear hx4 HW4
      obtain ⟨hq1, rfl, hq8⟩ := HOK.out rfl
      obtain rfl := hq1.trans HOL.out
      go_wp2
      refine bodyPost_ret (results_tmp2 rfl _ _ _) rfl ?_
      exact (UnQ.err HE.out HB4.out)
    have v3 : q ≤ 8 * l → decide ((7 : Int) < 8 * (l : Int) - (q : Int)) = false := fun h => decide_eq_false (by omega)
    have HV3 := Lib.hid v3
    obtain ⟨nm, hnm⟩ : ∃ nm, numA (unpack bs) q 8 = nm := ⟨_, rfl⟩
    have HNM := Lib.hid hnm
    rw [hnm] at HU
    by_cases hz : nm = 0
    · have HE : Hid (unB F bs size = (0, out)) := by show _ = _; rw [HU.out, if_neg (by omega)]
      have v4 : ((nm : Int) != 0) = false := by simp [hz]
      clear hb hl hm1 hs1 hone hT hlen hn HU HE0 hun ho hol holl hsz h7 hnm hz v3
      rw [HE.out]
      go_enter Tryz.func12, Tryz.ntmps12
      go_upto_region 9 with (first
        | (go_at_call 27; refine HUP.out.mono ?_; rintro e w2 ⟨A2, c2, rfl, hown2, hb2⟩; have HCP := Lib.hid (own_capT hown2); have HY2 := Lib.hid (Cells.of_own hown2); have HB2 := Lib.hid hb2; clear hown2 hb2)
        | (go_at_call 28; refine (HRT.out w2 A2 c2 HCP.out HY2.out).mono ?_; rintro e w3 ⟨A3, c3, sz3, at3, rfl, hok3, hown3, hb3⟩; dsimp only at hok3 hown3; dsimp only; rw [HN.out] at hown3; rw [HN.out]; have hb4 : Below w3.heap.size w3 (w3.alloc (.cells #[.slice A3 n c3, .int .i64 (sz3 : Int), .int .i64 (at3 : Int), .int .i64 0] 52)) := (Below.refl _ w3).alloc (Nat.le_refl _) _; obtain ⟨W4, hW4⟩ : ∃ W4, w3.alloc (.cells #[.slice A3 n c3, .int .i64 (sz3 : Int), .int .i64 (at3 : Int), .int .i64 0] 52) = W4 := ⟨_, rfl⟩; have hx4 : W4.heap[w3.heap.size]? = some (.cells #[.slice A3 n c3, .int .i64 (sz3 : Int), .int .i64 (at3 : Int), .int .i64 0] 52 (0, 0)) := (by rw [← hW4]; exact heap_alloc_new w3 _); rw [hW4] at hb4; have HOK := Lib.hid hok3; have HB4 := Lib.hid ((HB2.out.trans (hb3.mono HB2.out.size)).trans (hb4.mono (Nat.le_trans HB2.out.size hb3.size))); have HO34 := Lib.hid ((Cells.below (cells_of_own7 hown3) hb4 (Nat.le_refl _)).more hb4.size); have HY24 := Lib.hid (((HY2.out.below hb3 (Nat.le_refl _)).below hb4 hb3.size).more (Nat.le_trans hb3.size hb4.size)); have HW4 := Lib.hid hW4; clear hok3 hown3 hb3 hb4 hW4))
      rw [HW4.out]
      have g0 : W4.cell? ⟨w3.heap.size, 0, none⟩ = some (.slice A3 n c3) := cell_of_row _ _ 0 _ _ _ hx4
      have g1 : W4.cell? ⟨w3.heap.size, 1, none⟩ = some (.int .i64 (sz3 : Int)) := cell_of_row _ _ 1 _ _ _ hx4
      have g2 : W4.cell? ⟨w3.heap.size, 2, none⟩ = some (.int .i64 (at3 : Int)) := cell_of_row _ _ 2 _ _ _ hx4
      have g3 : W4.cell? ⟨w3.heap.size, 3, none⟩ = some (.int .i64 0) := cell_of_row _ _ 3 _ _ _ hx4
      clear hx4 HW4
      obtain ⟨hq1, rfl, hq8⟩ := HOK.out rfl
      obtain rfl := hq1.trans HOL.out
      have v3 := HV3.out hq8
      go_wp2_with (first
        | (go_at_call 29; refine (HNU.out W4 A2 c2 _ hq8 HY24.out).mono ?_; rintro e w' ⟨rfl, rfl⟩; rw [HNM.out])
        | (go_at_call 30; refine (HEX.out W4 A3 c3 HO34.out).mono ?_; rintro e w5 ⟨A5, c5, rfl, hc5, hb5⟩; have HC5 := Lib.hid hc5; have HB5 := Lib.hid (HB4.out.trans (hb5.mono HB4.out.size)); clear hc5 hb5))
      refine bodyPost_ret (results_tmp2 rfl _ _ _) rfl ?_
      exact ⟨A5, c5, rfl, HC5.out, HB5.out⟩
    · have HE : Hid (unB F bs size = (3, [])) := by show _ = _; rw [HU.out, if_pos (.inr hz)]
      have v4 : ((nm : Int) != 0) = true := by simpa using hz
      clear hb hl hm1 hs1 hone hT hlen hn HU HE0 hun ho hol holl hsz h7 hnm hz v3
      go_enter Tryz.func12, Tryz.ntmps12
      go_upto_region 9 with (first
        | (go_at_call 27; refine HUP.out.mono ?_; rintro e w2 ⟨A2, c2, rfl, hown2, hb2⟩; have HCP := Lib.hid (own_capT hown2); have HY2 := Lib.hid (Cells.of_own hown2); have HB2 := Lib.hid hb2; clear hown2 hb2)
        | (go_at_call 28; refine (HRT.out w2 A2 c2 HCP.out HY2.out).mono ?_; rintro e w3 ⟨A3, c3, sz3, at3, rfl, hok3, hown3, hb3⟩; dsimp only at hok3 hown3; dsimp only; rw [HN.out] at hown3; rw [HN.out]; have hb4 : Below w3.heap.size w3 (w3.alloc (.cells #[.slice A3 n c3, .int .i64 (sz3 : Int), .int .i64 (at3 : Int), .int .i64 0] 52)) := (Below.refl _ w3).alloc (Nat.le_refl _) _; obtain ⟨W4, hW4⟩ : ∃ W4, w3.alloc (.cells #[.slice A3 n c3, .int .i64 (sz3 : Int), .int .i64 (at3 : Int), .int .i64 0] 52) = W4 := ⟨_, rfl⟩; have hx4 : W4.heap[w3.heap.size]? = some (.cells #[.slice A3 n c3, .int .i64 (sz3 : Int), .int .i64 (at3 : Int), .int .i64 0] 52 (0, 0)) := (by rw [← hW4]; exact heap_alloc_new w3 _); rw [hW4] at hb4; have HOK := Lib.hid hok3; have HB4 := Lib.hid ((HB2.out.trans (hb3.mono HB2.out.size)).trans (hb4.mono (Nat.le_trans HB2.out.size hb3.size))); have HO34 := Lib.hid ((Cells.below (cells_of_own7 hown3) hb4 (Nat.le_refl _)).more hb4.size); have HY24 := Lib.hid (((HY2.out.below hb3 (Nat.le_refl _)).below hb4 hb3.size).more (Nat.le_trans hb3.size hb4.size)); have HW4 := Lib.hid hW4; clear hok3 hown3 hb3 hb4 hW4))
      rw [HW4.out]
      have g0 : W4.cell? ⟨w3.heap.size, 0, none⟩ = some (.slice A3 n c3) := cell_of_row _ _ 0 _ _ _ hx4
      have g1 : W4.cell? ⟨w3.heap.size, 1, none⟩ = some (.int .i64 (sz3 : Int)) := cell_of_row _ _ 1 _ _ _ hx4
      have g2 : W4.cell? ⟨w3.heap.size, 2, none⟩ = some (.int .i64 (at3 : Int)) := cell_of_row _ _ 2 _ _ _ hx4
      have g3 : W4.cell? ⟨w3.heap.size, 3, none⟩ = some (.int .i64 0) := cell_of_row _ _ 3 _ _ _ hx4
      clear hx4 HW4
      obtain ⟨hq1, rfl, hq8⟩ := HOK.out rfl
      obtain rfl := hq1.trans HOL.out
      have v3 := HV3.out hq8
      go_wp2_with (go_at_call 29; refine (HNU.out W4 A2 c2 _ hq8 HY24.out).mono ?_; rintro e w' ⟨rfl, rfl⟩; rw [HNM.out])
      refine bodyPost_ret (results_tmp2 rfl _ _ _) rfl ?_
      exact (UnQ.err HE.out HB4.out)
  have t5 : (m == 1) = false := by simpa using hone
  by_cases htwo : m = 2
  · have t6 : (m == 2) = true := by simpa using htwo
    have HP := Lib.hid (refPieces_any A l c w.heap.size bs w hl (by omega) hc hb (Nat.le_refl _))
    unfold PcPost at HP
    obtain ⟨⟨ps, er⟩, hT⟩ : ∃ T, pcA bs = T := ⟨_, rfl⟩
    have HU : Hid (unM F m bs size = if er ≠ 0 then (er, []) else if (ps.flatten.length : Int) ≠ size then (5, []) else (0, ps.flatten)) := by show _ = _; rw [unM, if_neg hm1, if_neg hs1, if_neg hone, if_pos htwo, hT]
    rw [hT] at HP
    dsimp only at HP
    by_cases her : er = 0
    rotate_left
    · have HE : Hid (unM F m bs size = (er, [])) := by show _ = _; rw [HU.out, if_pos her]
      have v1 : (er != 0) = true := by simpa using her
      clear hb hl hm1 hs1 hone htwo hT her HU
      go_enter Tryz.func12, Tryz.ntmps12
      go_wp2_with (go_at_call 17; refine HP.out.mono ?_; rintro e w3 ⟨v3, n3, cp3, A3, rfl, rfl, _, _, hb3⟩; have HB3 := Lib.hid hb3; clear hb3)
      refine bodyPost_ret (results_tmp2 rfl _ _ _) rfl ?_
      exact (UnQ.err HE.out HB3.out)
    subst her
    rw [if_neg (by simp)] at HU
    obtain ⟨R, hR⟩ : ∃ R, ps.flatten = R := ⟨_, rfl⟩
    rw [hR] at HP HU
    obtain ⟨rl, hrl⟩ : ∃ rl, R.length = rl := ⟨_, rfl⟩
    have HRL := Lib.hid hrl
    rw [hrl] at HU
    by_cases hsz : (rl : Int) = size
    · have HE : Hid (unM F m bs size = (0, R)) := by show _ = _; rw [HU.out, if_neg (by omega)]
      have v2 : ((rl : Int) != size) = false := by simpa using hsz
      clear hb hl hm1 hs1 hone htwo hT HU hR hrl hsz
      rw [HE.out]
      go_enter Tryz.func12, Tryz.ntmps12
      go_wp2_with (go_at_call 17; refine HP.out.mono ?_; rintro e w3 ⟨v3, n3, cp3, A3, rfl, rfl, hown, _, hb3⟩; have hown2 := hown (by first | rfl | trivial); obtain rfl : n3 = rl := (own_len hown2).symm.trans HRL.out; have HO3 := Lib.hid hown2; have HB3 := Lib.hid hb3; clear hown hown2 hb3)
      refine bodyPost_ret (results_tmp2 rfl _ _ _) rfl ?_
      exact ⟨A3, cp3, by rw [HRL.out]; rfl, Cells.of_own HO3.out, HB3.out⟩
    · have HE : Hid (unM F m bs size = (5, [])) := by show _ = _; rw [HU.out, if_pos hsz]
      have v2 : ((rl : Int) != size) = true := by simpa using hsz
      clear hb hl hm1 hs1 hone htwo hT HU hR hrl hsz
      go_enter Tryz.func12, Tryz.ntmps12
      go_wp2_with (go_at_call 17; refine HP.out.mono ?_; rintro e w3 ⟨v3, n3, cp3, A3, rfl, rfl, hown, _, hb3⟩; have hown2 := hown (by first | rfl | trivial); obtain rfl : n3 = rl := (own_len hown2).symm.trans HRL.out; have HB3 := Lib.hid hb3; clear hown hown2 hb3)
      refine bodyPost_ret (results_tmp2 rfl _ _ _) rfl ?_
      exact (UnQ.err HE.out HB3.out)
  have t6 : (m == 2) = false := by simpa using htwo
  have HU : Hid (unM F m bs size = if (l : Int) ≠ size then (5, []) else (0, bs)) := by show _ = _; rw [unM, if_neg hm1, if_neg hs1, if_neg hone, if_neg htwo, hl]
  have HLL := Lib.hid hl
  by_cases hsz : (l : Int) = size
  · have HE : Hid (unM F m bs size = (0, bs)) := by show _ = _; rw [HU.out, if_neg (by omega)]
    have v2 : ((l : Int) != size) = false := by simpa using hsz
    clear hb hl hm1 hs1 hone htwo HU hsz
    rw [HE.out]
    go_enter Tryz.func12, Tryz.ntmps12
    go_wp2
    refine bodyPost_ret (results_tmp2 rfl _ _ _) rfl ?_
    exact ⟨A, c, by rw [HLL.out]; rfl, HBY.out, Below.refl _ _⟩
  · have HE : Hid (unM F m bs size = (5, [])) := by show _ = _; rw [HU.out, if_pos hsz]
    have v2 : ((l : Int) != size) = true := by simpa using hsz
    clear hb hl hm1 hs1 hone htwo HU hsz
    go_enter Tryz.func12, Tryz.ntmps12
    go_wp2
    refine bodyPost_ret (results_tmp2 rfl _ _ _) rfl ?_
    exact (UnQ.err HE.out (Below.refl _ _))
end Go.Proofs.YtkikgidmioofaaaGreat
/- Layer 14: a payload is made. -/
namespace Go.Proofs.YtkikgidmioofaaaGreat
open Go.RowKit BitsP SymP
attribute [local go_sem ↓] Go.wp_at_zero Go.wp_at_succ

/-- What a payload is packed to, and what it is: method and bytes. -/
def pkB (lv : Int) (bs : List UInt8) : List UInt8 := pack (blkB (toks bs lv 0))
def pkM (lv : Int) (bs : List UInt8) : Int × List UInt8 := if lv < 0 then (0, bs) else if (pkB lv bs).length < bs.length then (1, pkB lv bs) else (0, bs)
theorem blkB_pos (ts : List Tk) : 1 ≤ (blkB ts).length := by
  rw [blkB, List.length_append, List.length_append, List.length_append, tabP, List.length_append, List.length_append, bitsOf_length]
  omega
theorem pack_pos {L : List Bool} (h : 1 ≤ L.length) : 1 ≤ (pack L).length := by
  have h1 := congrArg List.length (pack_unpack L)
  rw [unpack_length, List.length_append] at h1
  omega
theorem pkM_7 : pkM 3 [7] = (0, [7]) := by
  have h := pack_pos (blkB_pos (toks [7] 3 0))
  unfold pkM
  rw [if_neg (by decide), if_neg (by show ¬ (pkB 3 [7]).length < 1; unfold pkB; omega)]
theorem tkAt_wr {w : World} {A : Option Addr} {k q : Nat} {y l d : Int} (h : TkAt w A k y l d) (hq : w.heap[q]? = some (.cells zeroWr 43 (0, 0))) : ∀ a, A = some a → a.block ≠ q := fun a ha he => by
  obtain ⟨b, o, h1, _, h3, _⟩ := h
  rw [h1] at ha
  cases ha
  have hb : b = q := he
  subst hb
  rw [show w.cell? ⟨b, o + k * 3, none⟩ = zeroWr[o + k * 3]? from cell_of_row w b (o + k * 3) _ _ _ hq] at h3
  generalize o + k * 3 = m at h3
  match m, h3 with
  | 0, h3 => simp [zeroWr] at h3
  | 1, h3 => simp [zeroWr] at h3
  | 2, h3 => simp [zeroWr] at h3
  | m + 3, h3 => simp [zeroWr] at h3
set_option maxRecDepth 100000 in
set_option maxHeartbeats 1000000 in
theorem pack14_any (A : Option Addr) (l c : Nat) (bs : List UInt8) (lv : Int) (w : World) (hl : bs.length = l) (hm : l ≤ 4000) (hcap : l ≤ c) (hb : Bytes w w.heap.size A bs) :
    Calls Tryz.prog 9 #[.slice A l c, .int .i64 lv] w fun e w' => ∃ A' c', e = .returned (.tuple #[.int .i64 (pkM lv bs).1, .slice A' (pkM lv bs).2.length c', .int .i64 0]) ∧ OwnB w' w.heap.size 5 (.slice A' (pkM lv bs).2.length c') (pkM lv bs).2.length (pkM lv bs).2 ∧ Below w.heap.size w w' := by
  have t0 : decide ((65536 : Int) < (l : Int)) = false := decide_eq_false (by omega)
  have HLL := Lib.hid hl
  by_cases hlv : lv < 0
  · have HE : Hid (pkM lv bs = (0, bs)) := by show _ = _; unfold pkM; rw [if_pos hlv]
    have HC := Lib.hid (clone_any A l c w.heap.size bs w hl (by omega) (Nat.le_refl _) hb)
    have t1 : decide (0 ≤ lv) = false := decide_eq_false (by omega)
    rw [HE.out]
    dsimp only
    rw [hl]
    clear hl hb hlv
    go_enter Tryz.func9, Tryz.ntmps9
    go_wp2_with (go_at_call 22; refine HC.out.mono ?_; rintro e w2 ⟨A2, c2, rfl, hown2, hb2⟩; have HO2 := Lib.hid hown2; have HB2 := Lib.hid hb2; clear hown2 hb2)
    exact bodyPost_ret (results_tmp3 rfl _ _ _) rfl ⟨A2, c2, rfl, HO2.out, HB2.out⟩
  · have t1 : decide (0 ≤ lv) = true := decide_eq_true (by omega)
    have hok := toks_okT bs lv bs.length 0 (by omega)
    have hfew := toks_few bs lv
    have hb1 : Below w.heap.size w (w.alloc (.cells zeroWr 43)) := (Below.refl _ w).alloc (Nat.le_refl _) _
    have HB1 := Lib.hid hb1
    have HSP := Lib.hid (split_any A l c bs lv (w.alloc (.cells zeroWr 43)) hl hm hcap ((hb.below hb1 (Nat.le_refl _)).more hb1.size))
    have HWZ : Hid (∀ W, Below (w.alloc (.cells zeroWr 43)).heap.size (w.alloc (.cells zeroWr 43)) W → W.heap[w.heap.size]? = some (.cells zeroWr 43 (0, 0))) := fun W hW => (hW.block _ (by simp)).trans (heap_alloc_new w _)
    obtain ⟨ts, hts⟩ : ∃ ts, toks bs lv 0 = ts := ⟨_, rfl⟩
    have HPE : Hid (pkB lv bs = pack (blkB ts)) := by show _ = _; rw [pkB, hts]
    rw [hts] at hok hfew HSP
    have hfewB := blkB_few hok
    have HPT : Hid (∀ (W : World) (A2 : Option Addr) (c2 : Nat), Cells W W.heap.size A2 (ts.map tkC).flatten → Below (w.alloc (.cells zeroWr 43)).heap.size (w.alloc (.cells zeroWr 43)) W → _) := fun W A2 c2 hc hW =>
      blkput_any A2 ts.length c2 w.heap.size w.heap.size ts (oneB w.heap.size) [] W rfl (by omega) hok (toksOf_tk hok hc).2.1 (fun h0 a ha hk => by
        obtain ⟨t, ht⟩ : ∃ t, ts[0]? = some t := ⟨_, List.getElem?_eq_getElem h0⟩
        exact tkAt_wr ((toksOf_tk hok hc).2.1 0 t ht) (HWZ.out W hW) a ha hk) (WrS.zero _ (HWZ.out W hW)) (by simp) (by have := hW.size; simp at this; omega)
    have hPL : (pack (blkB ts)).length ≤ (blkB ts).length := pack_length _
    obtain ⟨P, hP⟩ : ∃ P, pack (blkB ts) = P := ⟨_, rfl⟩
    have HPP := Lib.hid hP
    rw [hP] at HPE hPL
    have hpl : P.length ≤ 500000 := by omega
    have hbl : (blkB ts).length ≤ 500000 := by omega
    have HBLL := Lib.hid hbl
    obtain ⟨k, hk⟩ : ∃ k, ts.length = k := ⟨_, rfl⟩
    rw [hk] at HSP HPT
    obtain ⟨pl, hpl2⟩ : ∃ pl, P.length = pl := ⟨_, rfl⟩
    have HPL := Lib.hid hpl2
    rw [hpl2] at hpl
    have HC : Hid (∀ W, Below w.heap.size w W → _) := fun W hW => clone_any A l c W.heap.size bs W hl (by omega) (Nat.le_refl _) ((hb.below hW (Nat.le_refl _)).more hW.size)
    unfold zeroWr at HSP HPT HB1
    by_cases hlt : pl < l
    · have HE : Hid (pkM lv bs = (1, P)) := by show _ = _; unfold pkM; rw [if_neg hlv, HPE.out, if_pos (by rw [HPL.out, HLL.out]; exact hlt)]
      rw [HE.out]
      dsimp only
      rw [HPL.out]
      have t2 : decide ((pl : Int) < (l : Int)) = true := decide_eq_true (by omega)
      have t2n : decide (pl < l) = true := decide_eq_true hlt
      clear hl hb hlv hok hfew hb1 hts hfewB hP hk hpl2 hlt hPL hbl
      go_enter Tryz.func9, Tryz.ntmps9
      go_wp2_with (first
        | (go_at_call 20; refine HSP.out.mono ?_; rintro e w2 ⟨A2, c2, rfl, hc2, hb2⟩; have HB2 := Lib.hid (HB1.out.trans (hb2.mono HB1.out.size)); have HPU := Lib.hid (HPT.out w2 A2 c2 hc2 hb2); rw [List.nil_append] at HPU; clear hc2 hb2)
        | (go_at_call 19; refine HPU.out.mono ?_; rintro e w3 ⟨rfl, S3, hw3, hm3, hs3⟩; have HW3 := Lib.hid hw3; have HB3 := Lib.hid (hm3.below HB2.out HB2.out.size (fun k hk => by cases hk; exact Nat.le_refl _)); clear hw3 hm3 hs3)
        | (go_at_call 21; refine (wbytes_any w.heap.size w.heap.size S3 (blkB ts) w3 HW3.out (by have := HBLL.out; omega)).mono ?_; rintro e w5 ⟨A5, c5, rfl, hown, hbel⟩; rw [HPP.out, HPL.out] at hown; rw [HPP.out, HPL.out]; have HO5 := Lib.hid (own_leP hown HB3.out.size); have HB5 := Lib.hid (HB3.out.trans (hbel.mono HB3.out.size)); clear hown hbel))
      exact bodyPost_ret (results_tmp3 rfl _ _ _) rfl ⟨A5, c5, rfl, HO5.out, HB5.out⟩
    · have HE : Hid (pkM lv bs = (0, bs)) := by show _ = _; unfold pkM; rw [if_neg hlv, HPE.out, if_neg (by rw [HPL.out, HLL.out]; exact hlt)]
      rw [HE.out]
      dsimp only
      rw [HLL.out]
      have t2 : decide ((pl : Int) < (l : Int)) = false := decide_eq_false (by omega)
      have t2n : decide (pl < l) = false := decide_eq_false hlt
      clear hl hb hlv hok hfew hb1 hts hfewB hP hk hpl2 hlt hPL hbl
      go_enter Tryz.func9, Tryz.ntmps9
      go_wp2_with (first
        | (go_at_call 20; refine HSP.out.mono ?_; rintro e w2 ⟨A2, c2, rfl, hc2, hb2⟩; have HB2 := Lib.hid (HB1.out.trans (hb2.mono HB1.out.size)); have HPU := Lib.hid (HPT.out w2 A2 c2 hc2 hb2); rw [List.nil_append] at HPU; clear hc2 hb2)
        | (go_at_call 19; refine HPU.out.mono ?_; rintro e w3 ⟨rfl, S3, hw3, hm3, hs3⟩; have HW3 := Lib.hid hw3; have HB3 := Lib.hid (hm3.below HB2.out HB2.out.size (fun k hk => by cases hk; exact Nat.le_refl _)); clear hw3 hm3 hs3)
        | (go_at_call 21; refine (wbytes_any w.heap.size w.heap.size S3 (blkB ts) w3 HW3.out (by have := HBLL.out; omega)).mono ?_; rintro e w5 ⟨A5, c5, rfl, hown, hbel⟩; rw [HPP.out, HPL.out]; have HB5 := Lib.hid (HB3.out.trans (hbel.mono HB3.out.size)); clear hown hbel)
        | (go_at_call 22; refine (HC.out _ HB5.out).mono ?_; rintro e w6 ⟨A6, c6, rfl, hown6, hb6⟩; have HO6 := Lib.hid (own_leP hown6 HB5.out.size); have HB6 := Lib.hid (HB5.out.trans (hb6.mono HB5.out.size)); clear hown6 hb6))
      exact bodyPost_ret (results_tmp3 rfl _ _ _) rfl ⟨A6, c6, rfl, HO6.out, HB6.out⟩
end Go.Proofs.YtkikgidmioofaaaGreat
/- Layer 14: a payload is made: the document's answer; the law. -/
namespace Go.Proofs.YtkikgidmioofaaaGreat
open Go.RowKit BitsP SymP
attribute [local go_sem ↓] Go.wp_at_zero Go.wp_at_succ

set_option maxRecDepth 100000 in
set_option maxHeartbeats 1000000 in
theorem lives14_any (w : World) : Calls Tryz.prog 8 #[] w fun e w' => e = .returned (.bool true) ∧ Below w.heap.size w w' := by
  have hb1 : Below w.heap.size w (w.alloc (.cells #[.int .u8 7] 5)) := (Below.refl _ w).alloc (Nat.le_refl _) _
  have hc1 : Bytes (w.alloc (.cells #[.int .u8 7] 5)) (w.alloc (.cells #[.int .u8 7] 5)).heap.size (some ⟨w.heap.size, 0, none⟩) [7] := fun _ =>
    ⟨w.heap.size, 0, rfl, by simp, fun j u hu => by rw [Nat.zero_add, cell_of_row _ _ j _ _ _ (heap_alloc_new w _), ← Array.getElem?_toList]; exact hu⟩
  have HP := Lib.hid (pack14_any (some ⟨w.heap.size, 0, none⟩) 1 1 [7] 3 _ rfl (by omega) (Nat.le_refl _) hc1)
  rw [pkM_7] at HP
  dsimp only at HP
  have HB1 := Lib.hid hb1
  clear hb1 hc1
  go_enter Tryz.func8, Tryz.ntmps8
  go_wp2_with (go_at_call 9; refine HP.out.mono ?_; rintro e w2 ⟨A2, c2, rfl, hown, hb2⟩; have k2 := str_any w2 A2 1 c2 _ [7] (Cells.of_own hown) rfl; have HB2 := Lib.hid (HB1.out.trans (hb2.mono HB1.out.size)); clear hown hb2)
  go_ret
  exact ⟨rfl, HB2.out⟩
end Go.Proofs.YtkikgidmioofaaaGreat
/- Layer 14: the data of a payload: the law. -/
namespace Go.Proofs.YtkikgidmioofaaaGreat
open Go.RowKit BitsP SymP
attribute [local go_sem ↓] Go.wp_at_zero Go.wp_at_succ

set_option maxRecDepth 100000 in
set_option maxHeartbeats 1000000 in
theorem unpacks_law (A : Option Addr) (l c : Nat) (bs : List UInt8) (m size : Int) (w : World) (hl : bs.length = l) (hcap : l ≤ c) (hb : Bytes w w.heap.size A bs) :
    Calls Tryz.prog 4 #[.int .i64 m, .slice A l c, .int .i64 size] w fun e w' => e = .returned (.bool true) ∧ Below w.heap.size w w' := by
  have HLV := Lib.hid lives14_any
  by_cases h3 : 600 < l
  · clear hb hl
    go_enter Tryz.func4, Tryz.ntmps4
    go_wp2_with (go_at_call 8; refine (HLV.out _).mono ?_; rintro e w4 ⟨rfl, hb4⟩; have HB4 := Lib.hid hb4; clear hb4)
    go_ret
    exact ⟨rfl, HB4.out⟩
  have t0 : decide ((600 : Int) < (l : Int)) = false := decide_eq_false (by omega)
  obtain ⟨F, hF⟩ := funT_ex
  have HP := Lib.hid (cdUnpack_any F hF A l c bs m size w hl (by omega) (fun _ => by omega) hcap hb)
  have HR : Hid (∀ W, Below w.heap.size w W → _) := fun W hW => rdUnpack_any F hF A l c bs m size W hl (by omega) hcap ((hb.below hW (Nat.le_refl _)).more hW.size)
  obtain ⟨⟨er, R⟩, hT⟩ : ∃ T, unM F m bs size = T := ⟨_, rfl⟩
  rw [hT] at HP HR
  unfold UnQ at HP HR
  dsimp only at HP HR
  obtain ⟨n, hn⟩ : ∃ n, R.length = n := ⟨_, rfl⟩
  have HN := Lib.hid hn
  rw [hn] at HP HR
  obtain ⟨str, hS⟩ : ∃ str : ByteArray, (⟨R.toArray⟩ : ByteArray) = str := ⟨_, rfl⟩
  have HSTR := Lib.hid hS
  clear hb hl hT hn hS
  go_enter Tryz.func4, Tryz.ntmps4
  go_upto_region 5 with (first
    | (go_at_call 11; refine HP.out.mono ?_; rintro e w2 ⟨A2, c2, rfl, hc2, hb2⟩; have HC2 := Lib.hid hc2; have HB2 := Lib.hid hb2; clear hc2 hb2)
    | (go_at_call 12; refine (HR.out _ HB2.out).mono ?_; rintro e w3 ⟨A3, c3, rfl, hc3, hb3⟩; have HC3 := Lib.hid hc3; have HC23 := Lib.hid (HC2.out.below hb3 (Nat.le_refl _)); have HB3 := Lib.hid (HB2.out.trans (hb3.mono HB2.out.size)); clear hc3 hb3))
  have k2 := str_any w3 A2 n c2 _ R HC23.out HN.out
  have k3 := str_any w3 A3 n c3 _ R HC3.out HN.out
  rw [HSTR.out] at k2 k3
  go_wp2_with (go_at_call 8; refine (HLV.out _).mono ?_; rintro e w5 ⟨rfl, hb5⟩; have HB5 := Lib.hid (HB3.out.trans (hb5.mono HB3.out.size)); clear hb5)
  go_ret
  exact ⟨rfl, HB5.out⟩
end Go.Proofs.YtkikgidmioofaaaGreat
/- Layer 14: what is packed is unpacked: the law. -/
namespace Go.Proofs.YtkikgidmioofaaaGreat
open Go.RowKit BitsP SymP
attribute [local go_sem ↓] Go.wp_at_zero Go.wp_at_succ

theorem toks_goodM (bs : List UInt8) (lv : Int) {most : Int} (hm : (bs.length : Int) ≤ most) : ∀ (k p : Nat), bs.length - p ≤ k → goodT most (toks bs lv p) p
  | 0, p, h => by rw [toks_end (by omega)]; trivial
  | k + 1, p, h => by
    by_cases hp : p < bs.length
    · have h1 := tsz_pos (tokAt bs lv p)
      obtain ⟨h2, h3⟩ := tokAt_fit (lv := lv) hp
      rw [toks_step hp]
      exact ⟨tokAt_okT _ _ _, h3, by omega, toks_goodM bs lv hm k _ (by omega)⟩
    · rw [toks_end (by omega)]; trivial
theorem toks_tooM (bs : List UInt8) (lv : Int) {most : Int} (hm : most < (bs.length : Int)) : ∀ (k p : Nat), bs.length - p ≤ k → p < bs.length → tooT most (toks bs lv p) p
  | 0, p, h, hp => by omega
  | k + 1, p, h, hp => by
    have h1 := tsz_pos (tokAt bs lv p)
    obtain ⟨h2, h3⟩ := tokAt_fit (lv := lv) hp
    rw [toks_step hp]
    refine ⟨h3, ?_⟩
    by_cases hl : most < ((p + max (tokAt bs lv p).2.1 1 : Nat) : Int)
    · exact .inl hl
    · exact .inr ⟨by omega, toks_tooM bs lv hm k _ (by show bs.length - (p + max (tokAt bs lv p).2.1 1) ≤ k; omega) (by show p + max (tokAt bs lv p).2.1 1 < bs.length; omega)⟩
theorem szs_toks (bs : List UInt8) (lv : Int) : ∀ (k p : Nat), bs.length - p ≤ k → szs (toks bs lv p) = bs.length - p
  | 0, p, h => by rw [toks_end (by omega)]; show 0 = _; omega
  | k + 1, p, h => by
    by_cases hp : p < bs.length
    · have h1 := tsz_pos (tokAt bs lv p)
      obtain ⟨h2, h3⟩ := tokAt_fit (lv := lv) hp
      have ih := szs_toks bs lv k (p + tsz (tokAt bs lv p)) (by omega)
      rw [toks_step hp]
      show max (tokAt bs lv p).2.1 1 + szs (toks bs lv (p + tsz (tokAt bs lv p))) = _
      rw [ih]
      show max (tokAt bs lv p).2.1 1 + (bs.length - (p + max (tokAt bs lv p).2.1 1)) = _
      omega
    · rw [toks_end (by omega)]; show 0 = _; omega
theorem pkM_m (lv : Int) (bs : List UInt8) : (pkM lv bs).1 = 0 ∨ (pkM lv bs).1 = 1 := by
  unfold pkM
  split
  · exact .inl rfl
  · split
    · exact .inr rfl
    · exact .inl rfl
theorem unB_pk {F : List Int → List Bool → Int × Int × Nat} (hF : FunT F) (bs : List UInt8) (lv : Int) (h0 : bs ≠ []) (size : Int) : unB F (pkB lv bs) size = if size = (bs.length : Int) then (0, bs) else (5, []) := by
  have hok := toks_okT bs lv bs.length 0 (by omega)
  have hpos : 0 < bs.length := List.length_pos_iff.2 h0
  have hun : (unpack (pkB lv bs)).drop 0 = blkB (toks bs lv 0) ++ zeros (lack (blkB (toks bs lv 0)).length) := by rw [List.drop_zero, pkB, pack_unpack]
  have hlen := congrArg List.length hun
  rw [List.drop_zero, unpack_length, List.length_append, zeros, List.length_replicate] at hlen
  by_cases hlt : size < (bs.length : Int)
  · have hb := blkF_too hF hok (toks_tooM bs lv hlt bs.length 0 (by omega) hpos) hun
    rw [unB, hb, if_pos (by simp), if_neg (by omega)]
  · have hb := blkF_back hF hok (toks_goodM bs lv (by omega : (bs.length : Int) ≤ size) bs.length 0 (by omega)) hun
    have hsz := szs_toks bs lv bs.length 0 (by omega)
    rw [unB, hb]
    dsimp only
    rw [if_neg (by simp), hsz, Nat.sub_zero]
    by_cases he : size = (bs.length : Int)
    · rw [if_neg (by omega), if_pos he, if_neg ?_]
      · have hx := toks_exp bs lv size bs.length 0 (by omega) (by omega)
        rw [List.take_zero, if_pos (.inl (by omega))] at hx
        rw [hx]
      · rintro (h | h)
        · have : lack (blkB (toks bs lv 0)).length ≤ 7 := by unfold lack; omega
          omega
        · apply h
          unfold numA
          rw [Nat.zero_add]
          have hd := drop_more hun
          rw [Nat.zero_add] at hd
          rw [hd, zeros, List.take_replicate]
          exact num_zeros _
    · rw [if_pos (by omega), if_neg he]
theorem unM_pk {F : List Int → List Bool → Int × Int × Nat} (hF : FunT F) (bs : List UInt8) (lv size : Int) (hl : bs.length ≤ 65536) : unM F (pkM lv bs).1 (pkM lv bs).2 size = if size = (bs.length : Int) then (0, bs) else (5, []) := by
  by_cases hs : size < 0 ∨ 65536 < size
  · have h1 : unM F (pkM lv bs).1 (pkM lv bs).2 size = (5, []) := by
      unfold unM
      rw [if_neg (by have := pkM_m lv bs; omega), if_pos hs]
    rw [h1, if_neg (by omega)]
  · unfold unM
    rw [if_neg (by have := pkM_m lv bs; omega), if_neg hs]
    unfold pkM
    split
    · dsimp only
      rw [if_neg (by decide), if_neg (by decide)]
      by_cases he : size = (bs.length : Int)
      · rw [if_neg (by omega), if_pos he]
      · rw [if_pos (by omega), if_neg he]
    · split
      · rename_i h
        dsimp only
        rw [if_pos rfl]
        exact unB_pk hF bs lv (fun e => by rw [e] at h; simp at h) size
      · dsimp only
        rw [if_neg (by decide), if_neg (by decide)]
        by_cases he : size = (bs.length : Int)
        · rw [if_neg (by omega), if_pos he]
        · rw [if_pos (by omega), if_neg he]
theorem pkM_len (lv : Int) (bs : List UInt8) : (pkM lv bs).2.length ≤ bs.length := by
  unfold pkM
  split
  · exact Nat.le_refl _
  · split
    · rename_i h; exact Nat.le_of_lt h
    · exact Nat.le_refl _
theorem mostC_any (l : Nat) (w : World) (hm : l ≤ 1000000) : Calls Tryz.prog 18 #[.int .i64 (l : Int)] w fun e w' => e = .returned (.int .i64 (l : Int)) ∧ w = w' := by
  have h : max (l : Int) 0 = (l : Int) := by omega
  go_enter Tryz.func18, Tryz.ntmps18
  go_wp2
  go_ret
  exact ⟨rfl, rfl⟩
set_option maxRecDepth 100000 in
set_option maxHeartbeats 1000000 in
theorem back14_law (A : Option Addr) (l c : Nat) (bs : List UInt8) (lv other : Int) (w : World) (hl : bs.length = l) (hcap : l ≤ c) (hb : Bytes w w.heap.size A bs) :
    Calls Tryz.prog 6 #[.slice A l c, .int .i64 lv, .int .i64 other] w fun e w' => e = .returned (.bool true) ∧ Below w.heap.size w w' := by
  have HLV := Lib.hid lives14_any
  by_cases h3 : 3000 < l
  · clear hb hl
    go_enter Tryz.func6, Tryz.ntmps6
    go_wp2_with (go_at_call 8; refine (HLV.out _).mono ?_; rintro e w4 ⟨rfl, hb4⟩; have HB4 := Lib.hid hb4; clear hb4)
    go_ret
    exact ⟨rfl, HB4.out⟩
  have t0 : decide ((3000 : Int) < (l : Int)) = false := decide_eq_false (by omega)
  obtain ⟨F, hF⟩ := funT_ex
  have hple := pkM_len lv bs
  rw [hl] at hple
  have HPK := Lib.hid (pack14_any A l c bs lv w hl (by omega) hcap hb)
  have HUN : Hid (∀ (W : World) (A2 : Option Addr) (c2 : Nat) (size : Int), (pkM lv bs).2.length ≤ c2 → Bytes W W.heap.size A2 (pkM lv bs).2 → _) := fun W A2 c2 size hc hbb => cdUnpack_any F hF A2 (pkM lv bs).2.length c2 (pkM lv bs).2 (pkM lv bs).1 size W rfl (by omega) (fun _ => by omega) hc hbb
  have HU1 := Lib.hid (fun W A2 c2 => HUN.out W A2 c2 (l : Int))
  have HU2 := Lib.hid (fun W A2 c2 => HUN.out W A2 c2 other)
  rw [unM_pk hF bs lv (l : Int) (by rw [hl]; omega), if_pos (by rw [hl])] at HU1
  rw [unM_pk hF bs lv other (by rw [hl]; omega), hl] at HU2
  unfold UnQ at HU1 HU2
  dsimp only at HU1
  rw [hl] at HU1
  have HMO := Lib.hid (fun W => mostC_any l W (by omega))
  obtain ⟨⟨m, P⟩, hP⟩ : ∃ P, pkM lv bs = P := ⟨_, rfl⟩
  rw [hP] at HPK HU1 HU2 hple
  dsimp only at HPK HU1 HU2 hple
  obtain ⟨n, hn⟩ : ∃ n, P.length = n := ⟨_, rfl⟩
  rw [hn] at HPK HU1 HU2 hple
  obtain ⟨str, hS⟩ : ∃ str : ByteArray, (⟨bs.toArray⟩ : ByteArray) = str := ⟨_, rfl⟩
  have HSTR := Lib.hid hS
  have HBY : Hid (∀ W, Below w.heap.size w W → Bytes W w.heap.size A bs) := fun W hW => hb.below hW (Nat.le_refl _)
  have HLL := Lib.hid hl
  have t1 : decide ((l : Int) < (n : Int)) = false := decide_eq_false (by omega)
  have t1n : decide (l < n) = false := decide_eq_false (by omega)
  obtain ⟨T, hT⟩ : ∃ T : Int × List UInt8, (if other = (l : Int) then ((0 : Int), bs) else (5, [])) = T := ⟨_, rfl⟩
  have HT := Lib.hid hT
  rw [hT] at HU2
  clear hb hl hP hn hS HUN hT
  go_enter Tryz.func6, Tryz.ntmps6
  go_upto_region 5 with (first
    | (go_at_call 9; refine HPK.out.mono ?_; rintro e w2 ⟨A2, c2, rfl, hown2, hb2⟩; have HCP := Lib.hid (own_capT hown2); have HO2 := Lib.hid (Cells.of_own hown2); have HB2 := Lib.hid hb2; clear hown2 hb2)
    | (go_at_call 11; refine (HU1.out w2 A2 c2 HCP.out HO2.out).mono ?_; rintro e w3 ⟨A3, c3, rfl, hc3, hb3⟩; have HC3 := Lib.hid hc3; have HO23 := Lib.hid ((HO2.out.below hb3 (Nat.le_refl _)).more hb3.size); have HB3 := Lib.hid (HB2.out.trans (hb3.mono HB2.out.size)); clear hc3 hb3))
  have k2 := str_any w3 A3 l c3 _ bs HC3.out HLL.out
  have k3 := str_any w3 A l c _ bs (HBY.out w3 HB3.out) HLL.out
  rw [HSTR.out] at k2 k3
  by_cases ho : other = (l : Int)
  · have u1 : (other == (l : Int)) = true := by simpa using ho
    have HTT : Hid (T = (0, bs)) := by show _ = _; rw [← HT.out, if_pos ho]
    rw [HTT.out] at HU2
    dsimp only at HU2
    clear ho
    go_wp2_with (first
      | (go_at_call 18; refine (HMO.out _).mono ?_; rintro e w' ⟨rfl, rfl⟩)
      | (go_at_call 11; refine (HU2.out w3 A2 c2 HCP.out HO23.out).mono ?_; rintro e w4 ⟨A4, c4, rfl, _, hb4⟩; have HB4 := Lib.hid (HB3.out.trans (hb4.mono HB3.out.size)); clear hb4)
      | (go_at_call 8; refine (HLV.out _).mono ?_; rintro e w5 ⟨rfl, hb5⟩; have HB5 := Lib.hid (HB4.out.trans (hb5.mono HB4.out.size)); clear hb5))
    go_ret
    exact ⟨rfl, HB5.out⟩
  · have u1 : (other == (l : Int)) = false := by simpa using ho
    have HTT : Hid (T = (5, [])) := by show _ = _; rw [← HT.out, if_neg ho]
    rw [HTT.out] at HU2
    dsimp only at HU2
    clear ho
    go_wp2_with (first
      | (go_at_call 18; refine (HMO.out _).mono ?_; rintro e w' ⟨rfl, rfl⟩)
      | (go_at_call 11; refine (HU2.out w3 A2 c2 HCP.out HO23.out).mono ?_; rintro e w4 ⟨A4, c4, rfl, _, hb4⟩; have HB4 := Lib.hid (HB3.out.trans (hb4.mono HB3.out.size)); clear hb4)
      | (go_at_call 8; refine (HLV.out _).mono ?_; rintro e w5 ⟨rfl, hb5⟩; have HB5 := Lib.hid (HB4.out.trans (hb5.mono HB4.out.size)); clear hb5))
    go_ret
    exact ⟨rfl, HB5.out⟩
end Go.Proofs.YtkikgidmioofaaaGreat
/- Layer 14: data that is streamed is the data, all together: the law. -/
namespace Go.Proofs.YtkikgidmioofaaaGreat
open Go.RowKit BitsP SymP
attribute [local go_sem ↓] Go.wp_at_zero Go.wp_at_succ

theorem capR {w : World} {base n c : Nat} {e : TypeId} {A : Option Addr} {xs : List Value} (h : OwnT w base e (.slice A n c) n xs) : n ≤ c := by
  rcases h.2 with ⟨h1, h2⟩ | ⟨g, cap, cur, fz, hv, _, _, _, hnc, _⟩
  · simp only [Value.slice.injEq] at h1
    omega
  · simp only [Value.slice.injEq] at hv
    obtain ⟨_, _, rfl⟩ := hv
    exact hnc
theorem RowsIn.belowR {w V : World} {A : Option Addr} {ls : List PcV} (h : RowsIn w A ls) (hV : Below w.heap.size w V) : RowsIn V A ls :=
  ⟨(Cells.below h.row hV (Nat.le_refl _)).more hV.size, fun x hx => ⟨(Cells.below (h.each x hx).1 hV (Nat.le_refl _)).more hV.size, (h.each x hx).2⟩⟩
/-- All data of rows. -/
def allP (ls : List PcV) : List UInt8 := (ls.map (·.1)).flatten
theorem allP_len (ls : List PcV) : (allP ls).length = sumP ls := by rw [allP, ← neR_flat, flat_sum]
theorem allP_up {ls : List PcV} {i : Nat} {x : PcV} (h : ls[i]? = some x) : allP (ls.take (i + 1)) = allP (ls.take i) ++ x.1 := by
  rw [allP, take_up h, List.map_append, List.flatten_append]
  simp [allP]
theorem unM_rows {F : List Int → List Bool → Int × Int × Nat} {ls : List PcV} (h : ∀ x ∈ ls, x.1.length ≤ 65535) (hs : sumP ls ≤ 65535) (size : Int) : unM F 2 (pcsB ls ++ [0, 0]) size = if size = (sumP ls : Int) then (0, allP ls) else (5, []) := by
  unfold unM
  rw [if_neg (by decide), pcA_stream h]
  by_cases hs1 : size < 0 ∨ 65536 < size
  · rw [if_pos hs1, if_neg (by omega)]
  · rw [if_neg hs1, if_neg (by decide), if_pos rfl]
    dsimp only
    rw [if_neg (by simp), flat_sum, neR_flat]
    by_cases he : size = (sumP ls : Int)
    · rw [if_neg (by omega), if_pos he]
      rfl
    · rw [if_pos (by omega), if_neg he]
set_option maxRecDepth 100000 in
set_option maxHeartbeats 2000000 in
theorem rows14_law (A : Option Addr) (l c : Nat) (ls : List PcV) (other : Int) (w : World) (hl : ls.length = l) (hr : RowsIn w A ls) :
    Calls Tryz.prog 7 #[.slice A l c, .int .i64 other] w fun e w' => e = .returned (.bool true) ∧ Below w.heap.size w w' := by
  have HLV := Lib.hid lives14_any
  by_cases h20 : 20 < l
  · have hd : decide ((20 : Int) < (l : Int)) = true := decide_eq_true (by omega)
    clear hl hr
    go_enter Tryz.func7, Tryz.ntmps7
    go_wp2_with (go_at_call 8; refine (HLV.out _).mono ?_; rintro e w4 ⟨rfl, hb4⟩; have HB4 := Lib.hid hb4; clear hb4)
    go_ret
    exact ⟨rfl, HB4.out⟩
  have hd : decide ((20 : Int) < (l : Int)) = false := decide_eq_false (by omega)
  have HL := Lib.hid hl
  have HR := Lib.hid hr
  clear hl hr
  go_enter Tryz.func7, Tryz.ntmps7
  go_wp2
  go_loopg [5, 6] l (fun gk sa si wr => ∃ (i n : Nat) (Av : Option Addr) (cv : Nat), i + gk = l ∧ si = .int .i64 (i : Int) ∧ sa = .slice Av n cv ∧ n = sumP (ls.take i) ∧ n ≤ 3000 * i ∧ (∀ x ∈ ls.take i, x.1.length ≤ 3000) ∧ OwnB wr w.heap.size 5 (.slice Av n cv) n (allP (ls.take i)) ∧ Below w.heap.size w wr)
  case atStart => exact ⟨0, 0, none, 0, by omega, rfl, rfl, by simp [sumP], by omega, by simp, World.ownsRow_nil _ _ _ _, Below.refl _ _⟩
  case round =>
    obtain ⟨i, n, Av, cv, hi, rfl, rfl, hn, hn3, hall, hown, hbel⟩ := hrel
    have HN := Lib.hid hn
    have HA := Lib.hid hall
    have HO := Lib.hid hown
    have HB := Lib.hid hbel
    clear hn hall hown hbel
    by_cases hil : i < l
    · obtain ⟨x, hx⟩ : ∃ x, ls[i]? = some x := ⟨_, List.getElem?_eq_getElem (by rw [HL.out]; exact hil)⟩
      have hrw := HR.out.belowR HB.out
      obtain ⟨b, o, rfl, hbB, hcc⟩ := hrw.row (by rw [List.length_map, HL.out]; omega)
      have ci : wr.cell? ⟨b, o + i, none⟩ = some (pcC x) := hcc i _ (by rw [List.getElem?_map, hx]; rfl)
      have HU := Lib.hid (sumP_up hx)
      have HTU := Lib.hid (take_up hx)
      have HAU := Lib.hid (allP_up hx)
      have hby := (hrw.each x (List.mem_of_getElem? hx)).1
      obtain ⟨r, A3, k3⟩ := x
      have ci2 : wr.cell? ⟨b, o + i, none⟩ = some (.slice A3 r.length k3) := ci
      have HBY : Hid (Bytes wr wr.heap.size A3 r) := hby
      obtain ⟨rl, hrl⟩ : ∃ rl, r.length = rl := ⟨_, rfl⟩
      have HN2 : Hid (n + rl = sumP (ls.take (i + 1))) := by show _ = _; rw [HU.out, HN.out, ← hrl]
      have HRL := Lib.hid hrl
      rw [hrl] at ci2
      clear hcc ci hx hbB hrl hby hrw
      by_cases h3 : 3000 < rl
      · have u1 : (3000 : Int) < (rl : Int) := by omega
        go_wp2_with (go_at_call 8; refine (HLV.out _).mono ?_; rintro e w4 ⟨rfl, hb4⟩; have HB4 := Lib.hid (HB.out.trans (hb4.mono HB.out.size)); clear hb4)
        go_ret
        exact ⟨rfl, HB4.out⟩
      · have u1 : ¬ (3000 : Int) < (rl : Int) := by omega
        have hn6 : n ≤ 60000 := by omega
        go_wp2_with (at_builtin; refine wpList_app wr byteElem3 rfl (.tmp 30) (.tmp 34) rfl w.heap.size (.slice Av n cv) n (byteCells (allP (ls.take i))) rfl HO.out wr.heap.size A3 rl k3 (byteCells r) rfl (by rw [byteCells_length, HRL.out, Nat.mul_one]) HBY.out (byteCells_one _) (by unfold maxLen; omega) (by omega) HB.out.size ?_; intro A7 c7 w7 hA; have HA7 := Lib.hid hA; clear hA)
        go_roundg (gk - 1)
        case measure => omega
        case rel =>
          refine ⟨i + 1, n + rl, A7, c7, by omega, by go_num, rfl, HN2.out, by omega, fun y hy => ?_, ?_, HA7.out.below HB.out HB.out.size (own_base HO.out)⟩
          · rw [HTU.out] at hy
            rcases List.mem_append.1 hy with h | h
            · exact HA.out y h
            · obtain rfl : y = (r, A3, k3) := by simpa using h
              show r.length ≤ 3000
              rw [HRL.out]
              omega
          · have h := HA7.out.own
            rw [HAU.out]
            unfold OwnB
            rw [byteCells_append]
            exact h
    · obtain rfl : i = l := by omega
      have htl : ls.take i = ls := by rw [← HL.out, List.take_length]
      have hall : ∀ x ∈ ls, x.1.length ≤ 65535 := fun x hx => by
        have := HA.out x (by rw [htl]; exact hx)
        omega
      have hns : n = sumP ls := by rw [← htl]; exact HN.out
      have hsm : sumP ls ≤ 65535 := by omega
      obtain ⟨F, hF⟩ := funT_ex
      have HU1 := Lib.hid (unM_rows (F := F) hall hsm (n : Int))
      have HU2 := Lib.hid (unM_rows (F := F) hall hsm other)
      rw [if_pos (by omega)] at HU1
      rw [← hns] at HU2
      have HPL := pcsB_len ls
      obtain ⟨ar, har⟩ : ∃ ar, pcsB ls ++ [0, 0] = ar := ⟨_, rfl⟩
      obtain ⟨la, hla⟩ : ∃ la, ar.length = la := ⟨_, rfl⟩
      have hla2 : la ≤ 60100 := by
        have h2 := HL.out
        rw [← hla, ← har, List.length_append]
        simp only [List.length_cons, List.length_nil]
        omega
      have HST := Lib.hid (stream_any A i c ls wr HL.out (by omega) (HR.out.belowR HB.out) hsm)
      rw [har] at HST HU1 HU2
      have HLA := Lib.hid hla
      have HUN : Hid (∀ (W : World) (A2 : Option Addr) (c2 : Nat) (size : Int), la ≤ c2 → Bytes W W.heap.size A2 ar → _) := fun W A2 c2 size hc hbb => cdUnpack_any F hF A2 la c2 ar 2 size W hla (by omega) (fun h => by cases h) hc hbb
      have HV1 := Lib.hid (fun W A2 c2 => HUN.out W A2 c2 (n : Int))
      have HV2 := Lib.hid (fun W A2 c2 => HUN.out W A2 c2 other)
      rw [HU1.out] at HV1
      rw [HU2.out] at HV2
      unfold UnQ at HV1 HV2
      dsimp only at HV1
      rw [allP_len, ← hns] at HV1
      have HO' : Hid (OwnB wr w.heap.size 5 (.slice Av n cv) n (allP ls)) := by have h := HO.out; rw [htl] at h; exact h
      have HLN : Hid ((allP ls).length = n) := by show _ = _; rw [allP_len, hns]
      obtain ⟨al, hal⟩ : ∃ al, allP ls = al := ⟨_, rfl⟩
      rw [hal] at HV1 HV2 HO' HLN
      obtain ⟨str, hS⟩ : ∃ str : ByteArray, (⟨al.toArray⟩ : ByteArray) = str := ⟨_, rfl⟩
      have HSTR := Lib.hid hS
      clear hla har hns hsm htl hall HA HN HU1 HU2 HUN HPL hal hS HO
      by_cases ho : other = (n : Int)
      · have u1 : (other == (n : Int)) = true := by simpa using ho
        rw [if_pos ho] at HV2
        dsimp only at HV2
        clear ho
        go_upto_region 13 with (first
          | (go_at_call 15; refine HST.out.mono ?_; rintro e w2 ⟨A2, la', c2, rfl, ho2, hb2⟩; obtain rfl : la' = la := (by have h1 := ho2.1; rw [byteCells_length, HLA.out] at h1; exact h1.symm); have HCP := Lib.hid (capR ho2); have HC2 := Lib.hid ho2.cells; have HO2 := Lib.hid (own_keep HO'.out (Mod.of_below hb2) (fun _ _ h => h)); have HB2 := Lib.hid (HB.out.trans (hb2.mono HB.out.size)); clear ho2 hb2)
          | (go_at_call 11; refine (HV1.out w2 A2 c2 HCP.out HC2.out).mono ?_; clear HV1; rintro e w3 ⟨A3, c3, rfl, hc3, hb3⟩; have HC3 := Lib.hid hc3; have HC23 := Lib.hid ((HC2.out.below hb3 (Nat.le_refl _)).more hb3.size); have HO3 := Lib.hid (own_keep HO2.out (Mod.of_below hb3) (fun _ _ h => h)); have HB3 := Lib.hid (HB2.out.trans (hb3.mono HB2.out.size)); clear hc3 hb3)
          | (go_at_call 11; refine (HV2.out w3 A2 c2 HCP.out HC23.out).mono ?_; rintro e w4 ⟨A4, c4, rfl, _, hb4⟩; have HC34 := Lib.hid (HC3.out.below hb4 (Nat.le_refl _)); have HO4 := Lib.hid (Cells.of_own (own_keep HO3.out (Mod.of_below hb4) (fun _ _ h => h))); have HB4 := Lib.hid (HB3.out.trans (hb4.mono HB3.out.size)); clear hb4))
        have k3 := str_any w4 A3 n c3 _ al HC34.out HLN.out
        have k4 := str_any w4 Av n cv _ al HO4.out HLN.out
        rw [HSTR.out] at k3 k4
        go_wp2_with (go_at_call 8; refine (HLV.out _).mono ?_; rintro e w5 ⟨rfl, hb5⟩; have HB5 := Lib.hid (HB4.out.trans (hb5.mono HB4.out.size)); clear hb5)
        go_ret
        exact ⟨rfl, HB5.out⟩
      · have u1 : (other == (n : Int)) = false := by simpa using ho
        rw [if_neg ho] at HV2
        dsimp only at HV2
        clear ho
        go_upto_region 13 with (first
          | (go_at_call 15; refine HST.out.mono ?_; rintro e w2 ⟨A2, la', c2, rfl, ho2, hb2⟩; obtain rfl : la' = la := (by have h1 := ho2.1; rw [byteCells_length, HLA.out] at h1; exact h1.symm); have HCP := Lib.hid (capR ho2); have HC2 := Lib.hid ho2.cells; have HO2 := Lib.hid (own_keep HO'.out (Mod.of_below hb2) (fun _ _ h => h)); have HB2 := Lib.hid (HB.out.trans (hb2.mono HB.out.size)); clear ho2 hb2)
          | (go_at_call 11; refine (HV1.out w2 A2 c2 HCP.out HC2.out).mono ?_; clear HV1; rintro e w3 ⟨A3, c3, rfl, hc3, hb3⟩; have HC3 := Lib.hid hc3; have HC23 := Lib.hid ((HC2.out.below hb3 (Nat.le_refl _)).more hb3.size); have HO3 := Lib.hid (own_keep HO2.out (Mod.of_below hb3) (fun _ _ h => h)); have HB3 := Lib.hid (HB2.out.trans (hb3.mono HB2.out.size)); clear hc3 hb3)
          | (go_at_call 11; refine (HV2.out w3 A2 c2 HCP.out HC23.out).mono ?_; rintro e w4 ⟨A4, c4, rfl, _, hb4⟩; have HC34 := Lib.hid (HC3.out.below hb4 (Nat.le_refl _)); have HO4 := Lib.hid (Cells.of_own (own_keep HO3.out (Mod.of_below hb4) (fun _ _ h => h))); have HB4 := Lib.hid (HB3.out.trans (hb4.mono HB3.out.size)); clear hb4))
        have k3 := str_any w4 A3 n c3 _ al HC34.out HLN.out
        have k4 := str_any w4 Av n cv _ al HO4.out HLN.out
        rw [HSTR.out] at k3 k4
        go_wp2_with (go_at_call 8; refine (HLV.out _).mono ?_; rintro e w5 ⟨rfl, hb5⟩; have HB5 := Lib.hid (HB4.out.trans (hb5.mono HB4.out.size)); clear hb5)
        go_ret
        exact ⟨rfl, HB5.out⟩
end Go.Proofs.YtkikgidmioofaaaGreat
/- Layer 14: rows of bytes that came in. -/
namespace Go.Proofs.YtkikgidmioofaaaGreat
open Go.RowKit

theorem rowsIn_of_lies {w : World} {a : Option Addr} {len cap : Nat} (h : Lies w (.slice (.slice (.int .u8))) [.slice a len cap]) : ∃ ls : List PcV, ls.length = len ∧ len ≤ 9223372036854775807 ∧ RowsIn w a ls := by
  obtain ⟨rs, h1, h2, h3, _, h4⟩ := rows_as (fun x : PcV => [pcC x]) (fun x => Bytes w w.heap.size x.2.1 x.1 ∧ x.1.length ≤ x.2.2) h (fun x _ hx => by
    have hx2 := hx
    obtain ⟨A, l, c, X, he, _, hlc, _⟩ := hx2
    subst he
    obtain ⟨bs, q1, _, q3⟩ := bytes_of_lies hx
    refine ⟨(bs, A, c), ?_, q3, ?_⟩
    · show _ = [Value.slice A bs.length c]
      rw [q1]
    · show bs.length ≤ c
      omega)
  rw [flatten_single] at h4
  exact ⟨rs, h1, h2, h4, h3⟩
end Go.Proofs.YtkikgidmioofaaaGreat
