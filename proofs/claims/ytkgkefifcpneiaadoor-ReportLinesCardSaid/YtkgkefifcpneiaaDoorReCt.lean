/- Layer 33: how much was told, of any step and any answer. -/
import Derived.Test.YtkgkefifcpneiaaDoorRePi
import Derived.Shelf.GgClosure.Gives
import Derived.Lib.LaidTab
namespace Go.Proofs.YtkgkefifcpneiaaDoor
open Go.RowKit

theorem tab_below {P : Program} {w W : World} {n : String} {k : IntKind} {zs : List Int} (h : Lib.TabIs P w n k zs) (hb : Below w.heap.size w W) : Lib.TabIs P W n k zs := by
  unfold Lib.TabIs World.var? at h ⊢
  cases hg : P.globalNamed n with
  | none => rw [hg] at h; exact h
  | some g =>
    rw [hg] at h
    by_cases hz : g < w.heap.size
    · rw [Option.bind_some] at h ⊢
      rw [hb.block g hz]
      exact h
    · rw [Option.bind_some, Array.getElem?_eq_none (by omega)] at h
      cases h
abbrev Tab10 (w : World) : Prop := Lib.TabIs Tryd.prog w "internal/strconv.uint64pow10" .u64 Lib.pow10Tab
theorem itoa33_any (n : Int) (h0 : -9223372036854775808 ≤ n) (h1 : n ≤ 9223372036854775807) (w : World) (ht : Tab10 w) :
    Calls Tryd.prog 35 #[.int .i64 n] w fun e w' => e = .returned (.string ⟨(Lib.itoa n).toArray⟩) ∧ Below w.heap.size w w' := by
  refine (Tryd.strconv_Itoa n h0 h1 w ht).mono ?_
  rintro e w' ⟨rfl, k, os, rfl⟩
  refine ⟨rfl, ?_⟩
  refine ⟨rfl, rfl, rfl, ?_, fun j hj => ?_⟩
  · unfold Sort.grow; simp
  · unfold Sort.grow
    exact Array.getElem?_append_left hj
theorem nd_le : ∀ k u : Nat, u < 10 ^ (k + 1) → Lib.nDigits u ≤ k + 1
  | 0, u, h => by rw [Lib.nDigits_small (by simpa using h)]; omega
  | k + 1, u, h => by
    by_cases hu : u < 10
    · rw [Lib.nDigits_small hu]; omega
    · rw [Lib.nDigits_big hu]
      have := nd_le k (u / 10) (by rw [Nat.div_lt_iff_lt_mul (by omega)]; rw [Nat.pow_succ] at h; exact h)
      omega
theorem itoa33_len {n : Int} (h0 : -9223372036854775808 ≤ n) (h1 : n ≤ 9223372036854775807) : (Lib.itoa n).length ≤ 20 := by
  unfold Lib.itoa
  split
  · rw [List.length_cons, Lib.decDigits_length]
    have := nd_le 18 n.natAbs (by rw [show (10 : Nat) ^ (18 + 1) = 10000000000000000000 from rfl]; omega)
    omega
  · rw [Lib.decDigits_length]
    have := nd_le 18 n.toNat (by rw [show (10 : Nat) ^ (18 + 1) = 10000000000000000000 from rfl]; omega)
    omega
def szOf : Value → Int
  | .int _ n => n
  | _ => 0
def lenOf : Value → Nat
  | .slice _ n _ => n
  | _ => 0
/-- What is known of the answer's other parts. -/
def Pr.full (p : Pr) : Prop := p.dl ≤ 9223372036854775807 ∧ ∃ sz na nl nc fa fl fc, p.a2 = .int .i64 sz ∧ p.a3 = .slice na nl nc ∧ p.a4 = .slice fa fl fc ∧ -9223372036854775808 ≤ sz ∧ sz ≤ 9223372036854775807 ∧ nl ≤ 9223372036854775807 ∧ fl ≤ 9223372036854775807
/-- How much was told, and what stands behind the number. -/
def cntN (p : Pr) : Option (Int × UInt8) :=
  if p.e ≠ 0 then none else if p.kind = 8 then some (p.dl, 98) else if p.kind = 9 then some (szOf p.a2, 98) else if p.kind = 10 then some (lenOf p.a3, 120) else if p.kind = 2 ∨ p.kind = 15 then some (lenOf p.a4, 120) else none
def cntS (p : Pr) : ByteArray := match cntN p with
  | none => ⟨#[]⟩
  | some (n, x) => ⟨(Lib.itoa n).toArray⟩ ++ ⟨#[x]⟩
section
variable (p : Pr) (w : World)
set_option maxHeartbeats 2000000
def Cnt33 (v : ByteArray) : Prop := Calls Tryd.prog 26 #[.agg #[.int .i64 p.kind, .string p.name, p.o2, p.o3, p.o4, p.o5, p.o6], .agg #[.int .i64 p.e, .slice p.ad p.dl p.dc, p.a2, p.a3, p.a4, .bool p.rf, .bool p.po]] w fun e w' => e = .returned (.string v) ∧ Below w.heap.size w w'
theorem count33_g8 (hf : p.full) (ht : Tab10 w) (he : p.e = 0) (hk : p.kind = 8) : Cnt33 p w (cntS p) := by
  obtain ⟨hdl, sz, na, nl, nc, fa, fl, fc, h2, h3, h4, h5, h6, h7, h8⟩ := hf
  have hc : cntS p = ⟨(Lib.itoa (p.dl : Int)).toArray⟩ ++ ⟨#[98]⟩ := by
    unfold cntS cntN
    simp [he, hk]
  rw [hc]
  unfold Cnt33
  rw [h2, h3, h4, he, hk]
  obtain ⟨kind, name, o2, o3, o4, o5, o6, e, ad, dl, dc, a2, a3, a4, rf, po⟩ := p
  dsimp only at *
  subst h2 h3 h4 he hk
  obtain ⟨W2, hW2⟩ : ∃ W2, (w.alloc (.cells #[.int .i64 8, .string name, o2, o3, o4, o5, o6] 36)).alloc (.cells #[.int .i64 0, .slice ad dl dc, .int .i64 sz, .slice na nl nc, .slice fa fl fc, .bool rf, .bool po] 47) = W2 := ⟨_, rfl⟩
  have HB : Hid (Below w.heap.size w W2) := by
    show Below _ _ _
    rw [← hW2]
    exact ((Below.refl _ w).alloc (Nat.le_refl _) _).alloc (by simp) _
  have HW := Lib.hid hW2
  have HT := Lib.hid (tab_below ht HB.out)
  have HI := Lib.hid (itoa33_any (dl : Int) (by omega) (by omega) W2 HT.out)
  have hz : (⟨(Lib.itoa (dl : Int)).toArray⟩ : ByteArray).size ≤ 20 := by
    have hz2 := itoa33_len (n := (dl : Int)) (by omega) (by omega)
    exact hz2
  clear hW2 ht
  generalize (⟨(Lib.itoa (dl : Int)).toArray⟩ : ByteArray) = v at *
  go_enter Tryd.func26, Tryd.ntmps26
  go_wp2_with (go_at_call 35; rw [HW.out]; refine HI.out.mono ?_; rintro e w1 ⟨rfl, hb1⟩; have HB1 := Lib.hid (HB.out.trans (hb1.mono HB.out.size)); clear hb1)
  go_ret
  exact ⟨rfl, HB1.out⟩
theorem count33_g9 (hf : p.full) (ht : Tab10 w) (he : p.e = 0) (hk : p.kind = 9) : Cnt33 p w (cntS p) := by
  obtain ⟨hdl, sz, na, nl, nc, fa, fl, fc, h2, h3, h4, h5, h6, h7, h8⟩ := hf
  have hc : cntS p = ⟨(Lib.itoa sz).toArray⟩ ++ ⟨#[98]⟩ := by
    unfold cntS cntN
    simp [he, hk, h2, szOf]
  rw [hc]
  unfold Cnt33
  rw [h2, h3, h4, he, hk]
  obtain ⟨kind, name, o2, o3, o4, o5, o6, e, ad, dl, dc, a2, a3, a4, rf, po⟩ := p
  dsimp only at *
  subst h2 h3 h4 he hk
  obtain ⟨W2, hW2⟩ : ∃ W2, (w.alloc (.cells #[.int .i64 9, .string name, o2, o3, o4, o5, o6] 36)).alloc (.cells #[.int .i64 0, .slice ad dl dc, .int .i64 sz, .slice na nl nc, .slice fa fl fc, .bool rf, .bool po] 47) = W2 := ⟨_, rfl⟩
  have HB : Hid (Below w.heap.size w W2) := by
    show Below _ _ _
    rw [← hW2]
    exact ((Below.refl _ w).alloc (Nat.le_refl _) _).alloc (by simp) _
  have HW := Lib.hid hW2
  have HT := Lib.hid (tab_below ht HB.out)
  have HI := Lib.hid (itoa33_any sz (by omega) (by omega) W2 HT.out)
  have hz : (⟨(Lib.itoa sz).toArray⟩ : ByteArray).size ≤ 20 := by
    have hz2 := itoa33_len (n := sz) (by omega) (by omega)
    exact hz2
  clear hW2 ht
  generalize (⟨(Lib.itoa sz).toArray⟩ : ByteArray) = v at *
  go_enter Tryd.func26, Tryd.ntmps26
  go_wp2_with (go_at_call 35; rw [HW.out]; refine HI.out.mono ?_; rintro e w1 ⟨rfl, hb1⟩; have HB1 := Lib.hid (HB.out.trans (hb1.mono HB.out.size)); clear hb1)
  go_ret
  exact ⟨rfl, HB1.out⟩
theorem count33_g10 (hf : p.full) (ht : Tab10 w) (he : p.e = 0) (hk : p.kind = 10) : Cnt33 p w (cntS p) := by
  obtain ⟨hdl, sz, na, nl, nc, fa, fl, fc, h2, h3, h4, h5, h6, h7, h8⟩ := hf
  have hc : cntS p = ⟨(Lib.itoa (nl : Int)).toArray⟩ ++ ⟨#[120]⟩ := by
    unfold cntS cntN
    simp [he, hk, h3, lenOf]
  rw [hc]
  unfold Cnt33
  rw [h2, h3, h4, he, hk]
  obtain ⟨kind, name, o2, o3, o4, o5, o6, e, ad, dl, dc, a2, a3, a4, rf, po⟩ := p
  dsimp only at *
  subst h2 h3 h4 he hk
  obtain ⟨W2, hW2⟩ : ∃ W2, (w.alloc (.cells #[.int .i64 10, .string name, o2, o3, o4, o5, o6] 36)).alloc (.cells #[.int .i64 0, .slice ad dl dc, .int .i64 sz, .slice na nl nc, .slice fa fl fc, .bool rf, .bool po] 47) = W2 := ⟨_, rfl⟩
  have HB : Hid (Below w.heap.size w W2) := by
    show Below _ _ _
    rw [← hW2]
    exact ((Below.refl _ w).alloc (Nat.le_refl _) _).alloc (by simp) _
  have HW := Lib.hid hW2
  have HT := Lib.hid (tab_below ht HB.out)
  have HI := Lib.hid (itoa33_any (nl : Int) (by omega) (by omega) W2 HT.out)
  have hz : (⟨(Lib.itoa (nl : Int)).toArray⟩ : ByteArray).size ≤ 20 := by
    have hz2 := itoa33_len (n := (nl : Int)) (by omega) (by omega)
    exact hz2
  clear hW2 ht
  generalize (⟨(Lib.itoa (nl : Int)).toArray⟩ : ByteArray) = v at *
  go_enter Tryd.func26, Tryd.ntmps26
  go_wp2_with (go_at_call 35; rw [HW.out]; refine HI.out.mono ?_; rintro e w1 ⟨rfl, hb1⟩; have HB1 := Lib.hid (HB.out.trans (hb1.mono HB.out.size)); clear hb1)
  go_ret
  exact ⟨rfl, HB1.out⟩
theorem count33_g2 (hf : p.full) (ht : Tab10 w) (he : p.e = 0) (hk : p.kind = 2) : Cnt33 p w (cntS p) := by
  obtain ⟨hdl, sz, na, nl, nc, fa, fl, fc, h2, h3, h4, h5, h6, h7, h8⟩ := hf
  have hc : cntS p = ⟨(Lib.itoa (fl : Int)).toArray⟩ ++ ⟨#[120]⟩ := by
    unfold cntS cntN
    simp [he, hk, h4, lenOf]
  rw [hc]
  unfold Cnt33
  rw [h2, h3, h4, he, hk]
  obtain ⟨kind, name, o2, o3, o4, o5, o6, e, ad, dl, dc, a2, a3, a4, rf, po⟩ := p
  dsimp only at *
  subst h2 h3 h4 he hk
  obtain ⟨W2, hW2⟩ : ∃ W2, (w.alloc (.cells #[.int .i64 2, .string name, o2, o3, o4, o5, o6] 36)).alloc (.cells #[.int .i64 0, .slice ad dl dc, .int .i64 sz, .slice na nl nc, .slice fa fl fc, .bool rf, .bool po] 47) = W2 := ⟨_, rfl⟩
  have HB : Hid (Below w.heap.size w W2) := by
    show Below _ _ _
    rw [← hW2]
    exact ((Below.refl _ w).alloc (Nat.le_refl _) _).alloc (by simp) _
  have HW := Lib.hid hW2
  have HT := Lib.hid (tab_below ht HB.out)
  have HI := Lib.hid (itoa33_any (fl : Int) (by omega) (by omega) W2 HT.out)
  have hz : (⟨(Lib.itoa (fl : Int)).toArray⟩ : ByteArray).size ≤ 20 := by
    have hz2 := itoa33_len (n := (fl : Int)) (by omega) (by omega)
    exact hz2
  clear hW2 ht
  generalize (⟨(Lib.itoa (fl : Int)).toArray⟩ : ByteArray) = v at *
  go_enter Tryd.func26, Tryd.ntmps26
  go_wp2_with (go_at_call 35; rw [HW.out]; refine HI.out.mono ?_; rintro e w1 ⟨rfl, hb1⟩; have HB1 := Lib.hid (HB.out.trans (hb1.mono HB.out.size)); clear hb1)
  go_ret
  exact ⟨rfl, HB1.out⟩
theorem count33_g15 (hf : p.full) (ht : Tab10 w) (he : p.e = 0) (hk : p.kind = 15) : Cnt33 p w (cntS p) := by
  obtain ⟨hdl, sz, na, nl, nc, fa, fl, fc, h2, h3, h4, h5, h6, h7, h8⟩ := hf
  have hc : cntS p = ⟨(Lib.itoa (fl : Int)).toArray⟩ ++ ⟨#[120]⟩ := by
    unfold cntS cntN
    simp [he, hk, h4, lenOf]
  rw [hc]
  unfold Cnt33
  rw [h2, h3, h4, he, hk]
  obtain ⟨kind, name, o2, o3, o4, o5, o6, e, ad, dl, dc, a2, a3, a4, rf, po⟩ := p
  dsimp only at *
  subst h2 h3 h4 he hk
  obtain ⟨W2, hW2⟩ : ∃ W2, (w.alloc (.cells #[.int .i64 15, .string name, o2, o3, o4, o5, o6] 36)).alloc (.cells #[.int .i64 0, .slice ad dl dc, .int .i64 sz, .slice na nl nc, .slice fa fl fc, .bool rf, .bool po] 47) = W2 := ⟨_, rfl⟩
  have HB : Hid (Below w.heap.size w W2) := by
    show Below _ _ _
    rw [← hW2]
    exact ((Below.refl _ w).alloc (Nat.le_refl _) _).alloc (by simp) _
  have HW := Lib.hid hW2
  have HT := Lib.hid (tab_below ht HB.out)
  have HI := Lib.hid (itoa33_any (fl : Int) (by omega) (by omega) W2 HT.out)
  have hz : (⟨(Lib.itoa (fl : Int)).toArray⟩ : ByteArray).size ≤ 20 := by
    have hz2 := itoa33_len (n := (fl : Int)) (by omega) (by omega)
    exact hz2
  clear hW2 ht
  generalize (⟨(Lib.itoa (fl : Int)).toArray⟩ : ByteArray) = v at *
  go_enter Tryd.func26, Tryd.ntmps26
  go_wp2_with (go_at_call 35; rw [HW.out]; refine HI.out.mono ?_; rintro e w1 ⟨rfl, hb1⟩; have HB1 := Lib.hid (HB.out.trans (hb1.mono HB.out.size)); clear hb1)
  go_ret
  exact ⟨rfl, HB1.out⟩
theorem count33_e (he : p.e ≠ 0) : Cnt33 p w (cntS p) := by
  have hc : cntS p = ⟨#[]⟩ := by
    unfold cntS cntN
    simp [he]
  rw [hc]
  unfold Cnt33
  have HB : Hid (Below w.heap.size w ((w.alloc (.cells #[.int .i64 p.kind, .string p.name, p.o2, p.o3, p.o4, p.o5, p.o6] 36)).alloc (.cells #[.int .i64 p.e, .slice p.ad p.dl p.dc, p.a2, p.a3, p.a4, .bool p.rf, .bool p.po] 47))) := ((Below.refl _ w).alloc (Nat.le_refl _) _).alloc (by simp) _
  have he2 : (p.e != 0) = true := by simp [he]
  go_enter Tryd.func26, Tryd.ntmps26
  go_wp2
  go_ret
  exact ⟨rfl, HB.out⟩
theorem count33_o (he : p.e = 0) (h8 : p.kind ≠ 8) (h9 : p.kind ≠ 9) (h10 : p.kind ≠ 10) (h2 : p.kind ≠ 2) (h15 : p.kind ≠ 15) : Cnt33 p w (cntS p) := by
  have hc : cntS p = ⟨#[]⟩ := by
    unfold cntS cntN
    simp [he, h8, h9, h10, h2, h15]
  rw [hc]
  unfold Cnt33
  rw [he]
  have HB : Hid (Below w.heap.size w ((w.alloc (.cells #[.int .i64 p.kind, .string p.name, p.o2, p.o3, p.o4, p.o5, p.o6] 36)).alloc (.cells #[.int .i64 0, .slice p.ad p.dl p.dc, p.a2, p.a3, p.a4, .bool p.rf, .bool p.po] 47))) := ((Below.refl _ w).alloc (Nat.le_refl _) _).alloc (by simp) _
  have e8 : (p.kind == 8) = false := by simp [h8]
  have e9 : (p.kind == 9) = false := by simp [h9]
  have e10 : (p.kind == 10) = false := by simp [h10]
  have e2 : (p.kind == 2) = false := by simp [h2]
  have e15 : (p.kind == 15) = false := by simp [h15]
  go_enter Tryd.func26, Tryd.ntmps26
  go_wp2
  go_ret
  exact ⟨rfl, HB.out⟩
theorem count33_any (hf : p.full) (ht : Tab10 w) : Cnt33 p w (cntS p) := by
  by_cases he : p.e = 0
  · by_cases h8 : p.kind = 8
    · exact count33_g8 p w hf ht he h8
    by_cases h9 : p.kind = 9
    · exact count33_g9 p w hf ht he h9
    by_cases h10 : p.kind = 10
    · exact count33_g10 p w hf ht he h10
    by_cases h2 : p.kind = 2
    · exact count33_g2 p w hf ht he h2
    by_cases h15 : p.kind = 15
    · exact count33_g15 p w hf ht he h15
    exact count33_o p w he h8 h9 h10 h2 h15
  · exact count33_e p w he
end
end Go.Proofs.YtkgkefifcpneiaaDoor
