/- Layer 8: a symbol's code is written. -/
import Derived.Test.YtbpgaaecifnohaaMgRunsPuts20
import Derived.Test.YtbpgaaecifnohaaMgRunsPuts22
import Derived.Test.YtbpgaaecifnohaaMgRunsPuts23
import Derived.Test.YtbpgaaecifnohaaMgRunsPuts00
import Derived.Test.YtbpgaaecifnohaaMgRunsPuts19
namespace Go.Proofs.Ytbpgaaecifnohaa
open Go.RowKit BitsP

set_option maxHeartbeats 400000 in
theorem revb_any (x : Nat) (w : World) (hx : x < 4294967296) :
    Calls Try.prog 82 #[.int .u32 (x : Int)] w fun e w' => e = .returned (.int .u32 (stepR 16 65535 (stepR 8 16711935 x) : Nat)) ∧ w = w' := by
  have h8 := stepR_int (k := 8) (m := 16711935) hx (by decide)
  have l8 := stepR_lt 8 16711935 x (by decide)
  obtain ⟨y, hy⟩ : ∃ y, stepR 8 16711935 x = y := ⟨_, rfl⟩
  rw [hy] at h8 l8 ⊢
  have h16 := step16_int l8
  obtain ⟨z, hz⟩ : ∃ z, stepR 16 65535 y = z := ⟨_, rfl⟩
  rw [hz] at h16 ⊢
  have h8' : bits .or .u32 (bits .and .u32 ((x : Int) / 256) 16711935) (bits .and .u32 (x : Int) 16711935 * 256 % 4294967296) = (y : Int) := h8
  clear hy hz hx h8 l8
  go_enter Try.func82, Try.ntmps82
  go_wp2
  go_ret
  exact ⟨rfl, rfl⟩
set_option maxHeartbeats 1000000 in
theorem rev_any (x : Nat) (w : World) (hx : x < 4294967296) :
    Calls Try.prog 60 #[.int .u32 (x : Int)] w fun e w' => e = .returned (.int .u32 (rev32 x : Nat)) ∧ w = w' := by
  unfold rev32
  have h1 := stepR_int (k := 1) (m := 1431655765) hx (by decide)
  have l1 := stepR_lt 1 1431655765 x (by decide)
  obtain ⟨y1, hy1⟩ : ∃ y, stepR 1 1431655765 x = y := ⟨_, rfl⟩
  rw [hy1] at h1 l1 ⊢
  have h2 := stepR_int (k := 2) (m := 858993459) l1 (by decide)
  have l2 := stepR_lt 2 858993459 y1 (by decide)
  obtain ⟨y2, hy2⟩ : ∃ y, stepR 2 858993459 y1 = y := ⟨_, rfl⟩
  rw [hy2] at h2 l2 ⊢
  have h3 := stepR_int (k := 4) (m := 252645135) l2 (by decide)
  have l3 := stepR_lt 4 252645135 y2 (by decide)
  obtain ⟨y3, hy3⟩ : ∃ y, stepR 4 252645135 y2 = y := ⟨_, rfl⟩
  rw [hy3] at h3 l3 ⊢
  have HB := Lib.hid (revb_any y3 w l3)
  obtain ⟨z, hz⟩ : ∃ z, stepR 16 65535 (stepR 8 16711935 y3) = z := ⟨_, rfl⟩
  rw [hz] at HB ⊢
  have h1' : bits .or .u32 (bits .and .u32 ((x : Int) / 2) 1431655765) (bits .and .u32 (x : Int) 1431655765 * 2 % 4294967296) = (y1 : Int) := h1
  have h2' : bits .or .u32 (bits .and .u32 ((y1 : Int) / 4) 858993459) (bits .and .u32 (y1 : Int) 858993459 * 4 % 4294967296) = (y2 : Int) := h2
  have h3' : bits .or .u32 (bits .and .u32 ((y2 : Int) / 16) 252645135) (bits .and .u32 (y2 : Int) 252645135 * 16 % 4294967296) = (y3 : Int) := h3
  clear hy1 hy2 hy3 hz hx h1 h2 h3 l1 l2 l3
  go_enter Try.func60, Try.ntmps60
  go_wp2_with (go_at_call 82; refine HB.out.mono ?_; rintro e w' ⟨rfl, rfl⟩)
  go_ret
  exact ⟨rfl, rfl⟩
/-- The bits of a symbol: none, if it has no code. -/
def symB (zs : List Int) (s : Int) : List Bool := if 0 < lenAt zs s then codeB ((caV zs).getD s.toNat 0).toNat (lenAt zs s).toNat else []
def hasB (zs : List Int) (s : Int) : Bool := decide (0 < lenAt zs s)
theorem lenAt_cases {zs : List Int} (hr : caR zs = true) (s : Int) : (lenAt zs s = 0 ∧ hasB zs s = false ∧ symB zs s = []) ∨
    ∃ t n v k : Nat, s = (t : Int) ∧ Sym zs t n v k ∧ lenAt zs s = (n : Int) ∧ hasB zs s = true ∧ symB zs s = codeB v n ∧ v < 2 ^ n := by
  by_cases h0 : 0 ≤ s
  · obtain ⟨t, rfl⟩ := Int.eq_ofNat_of_zero_le h0
    by_cases ht : t < zs.length
    · obtain ⟨x, hx⟩ : ∃ x, zs[t]? = some x := ⟨_, List.getElem?_eq_getElem ht⟩
      have hb := lenB_yes ((caR_len hr).2 x (List.mem_of_getElem? hx))
      obtain ⟨n, rfl⟩ := Int.eq_ofNat_of_zero_le hb.1
      have hl : lenAt zs (t : Int) = (n : Int) := by rw [lenAt, if_pos h0, Int.toNat_natCast, getD_of hx]
      by_cases h1 : 1 ≤ n
      · obtain ⟨v, k, hs⟩ := sym_of hx h1 (by omega)
        refine .inr ⟨t, n, v, k, rfl, hs, hl, ?_, ?_, hs.lt hr⟩
        · unfold hasB; rw [hl]; exact decide_eq_true (by omega)
        · unfold symB; rw [hl, if_pos (by omega), Int.toNat_natCast, Int.toNat_natCast, getD_of hs.val, Int.toNat_natCast]
      · have h2 : n = 0 := by omega
        subst h2
        exact .inl ⟨hl, by unfold hasB; rw [hl]; rfl, by unfold symB; rw [hl]; rfl⟩
    · have hl : lenAt zs (t : Int) = 0 := by rw [lenAt, if_pos h0, List.getD, List.getElem?_eq_none (by rw [Int.toNat_natCast]; omega)]; rfl
      exact .inl ⟨hl, by unfold hasB; rw [hl]; rfl, by unfold symB; rw [hl]; rfl⟩
  · have hl : lenAt zs s = 0 := by rw [lenAt, if_neg h0]
    exact .inl ⟨hl, by unfold hasB; rw [hl]; rfl, by unfold symB; rw [hl]; rfl⟩
theorem LC.mod {w w' : World} {g : Nat} {zs : List Int} {S : Nat → Prop} (h : LC w g zs) (hm : Mod S w w') (hS : ∀ k, S k → g < k) : LC w' g zs := by
  obtain ⟨A1, A2, A3, c1, c2, c3, m, hcb, hmx, h1, h2, h3⟩ := h
  have hg := cb_lt hcb
  have key : ∀ {A : Option Addr} {xs : List Value}, Cells w g A xs → Cells w' g A xs := fun hc hp => by
    obtain ⟨b, o, e, hb, hcc⟩ := hc hp
    exact ⟨b, o, e, hb, fun j u hj => (World.cell?_of_block (a := ⟨b, o + j, none⟩) (hm.block b (by omega) (fun hs => by have := hS b hs; omega))).trans (hcc j u hj)⟩
  exact ⟨A1, A2, A3, c1, c2, c3, m, hm.keep hcb (fun hs => by have := hS g hs; omega), hmx, key h1, key h2, key h3⟩
set_option maxHeartbeats 1000000 in
theorem put8_any (g q base : Nat) (zs : List Int) (S : Nat → Prop) (L : List Bool) (s : Int) (w : World) (hr : caR zs = true) (h : LC w g zs) (hw : WrS w q base S L) (hL : L.length ≤ 1000000000) (hbase : base ≤ w.heap.size) :
    Calls Try.prog 27 #[.pointer (some ⟨g, 0, none⟩), .pointer (some ⟨q, 0, none⟩), .int .i64 s] w
      fun e w' => e = .returned (.bool (hasB zs s)) ∧ ∃ S', WrS w' q base S' (L ++ symB zs s) ∧ Mod S w w' ∧ ∀ k, S' k → S k ∨ w.heap.size ≤ k := by
  have hzl := (caR_len hr).1
  have HLN := Lib.hid (len_any g zs s w h (by omega))
  rcases lenAt_cases hr s with ⟨e1, e2, e3⟩ | ⟨t, n, v, k, rfl, hs, e1, e2, e3, hvn⟩
  · rw [e1] at HLN
    have HW := Lib.hid hw
    have HE2 := Lib.hid e2
    have HE3 := Lib.hid e3
    clear h hw e1 e2 e3
    go_enter Try.func27, Try.ntmps27
    go_wp2_with (go_at_call 59; refine HLN.out.mono ?_; rintro e w' ⟨rfl, rfl⟩)
    go_ret
    exact ⟨by rw [HE2.out]; rfl, S, by rw [HE3.out, List.append_nil]; exact HW.out, Mod.refl _ _, fun k hk => .inl hk⟩
  · obtain ⟨A1, A2, A3, c1, c2, c3, m, hcb, hmx, h1, h2, h3⟩ := h
    obtain ⟨p0, p1, p2, p3⟩ := cb_pre hcb
    have hvl := (List.getElem?_eq_some_iff.1 hs.val).1
    have htl := (List.getElem?_eq_some_iff.1 hs.len).1
    obtain ⟨b, o, rfl, hb, hc2⟩ := h2 (by rw [List.length_map]; omega)
    have c0 : w.cell? ⟨b, o + t, none⟩ = some (.int .i64 (v : Int)) := hc2 t _ (by rw [List.getElem?_map, hs.val]; rfl)
    have h15 := hs.few
    have h1n := hs.one
    have hp15 : (2 : Nat) ^ n ≤ 32768 := Nat.le_trans (Nat.pow_le_pow_right (by decide) h15) (by decide)
    have hv15 : v < 32768 := by omega
    have hwv : IntKind.u32.wrap (v : Int) = (v : Int) := IntWalk.u32_in _ (by omega)
    have HRV := Lib.hid (rev_any v w (by omega))
    obtain ⟨d, hd⟩ : ∃ d, 32 - n = d := ⟨_, rfl⟩
    have hsub : IntKind.i64.wrap (32 - (n : Int)) = (d : Int) := by rw [IntWalk.i64_in _ (by omega)]; omega
    have hcode := rev32_code (v := v) (n := n) (by omega)
    have hrl := rev32_lt v
    rw [hd] at hcode
    obtain ⟨X, hX⟩ : ∃ X, rev32 v = X := ⟨_, rfl⟩
    rw [hX] at HRV hcode hrl
    obtain ⟨Y, hY⟩ : ∃ Y, X / 2 ^ d = Y := ⟨_, rfl⟩
    rw [hY] at hcode
    have hYX : Y ≤ X := by rw [← hY]; exact Nat.div_le_self _ _
    have hsh : (X : Int) / 2 ^ d = (Y : Int) := by rw [← hY]; simp
    have HPW := Lib.hid (wput_any q base S L (Y : Int) (n : Int) w hw (by omega) hbase (by omega) (by omega) (by omega) (by omega))
    rw [cnt_nat (by omega), Int.toNat_natCast, hcode] at HPW
    rw [e1] at HLN
    have t0 : ((n : Int) == 0) = false := by simp; omega
    have t0' : (n == 0) = false := by simp; omega
    have HE2 := Lib.hid e2
    have HE3 := Lib.hid e3
    have hd31 : d ≤ 31 := by omega
    clear hX hY hcode hs h1 h3 hc2 hw e1 e2 e3 hcb hvn hd hp15
    go_enter Try.func27, Try.ntmps27
    go_wp2_with (first
      | (go_at_call 59; refine HLN.out.mono ?_; rintro e w' ⟨rfl, rfl⟩)
      | (go_at_call 60; refine HRV.out.mono ?_; rintro e w' ⟨rfl, rfl⟩)
      | (go_at_call 19; refine HPW.out.mono ?_; rintro e w5 ⟨rfl, hx⟩; have HX := Lib.hid hx; clear hx))
    go_ret
    exact ⟨by rw [HE2.out]; rfl, by rw [HE3.out]; exact HX.out⟩
end Go.Proofs.Ytbpgaaecifnohaa
/- Layer 9, plainly: a table's bits. -/
namespace Go.Proofs.Ytbpgaaecifnohaa
open BitsP

/-- How often each number stands. -/
def oftP (ps : List (Nat × Nat)) : List Nat := incW (List.replicate 19 0) (ps.map (·.1))
theorem oftP_len (ps : List (Nat × Nat)) : (oftP ps).length = 19 := by rw [oftP, incW_len, List.length_replicate]
theorem oftP_snoc (ps : List (Nat × Nat)) (t : Nat × Nat) : oftP (ps ++ [t]) = (oftP ps).set t.1 ((oftP ps).getD t.1 0 + 1) := by
  unfold oftP
  rw [List.map_append, incW_append]
  rfl
theorem oftP_getD (ps : List (Nat × Nat)) {s : Nat} (h : s < 19) : (oftP ps).getD s 0 = (ps.map (·.1)).count s := by
  rw [oftP, incW_getD _ _ _ (by rw [List.length_replicate]; exact h)]
  have h0 : (List.replicate 19 0).getD s 0 = 0 := by rw [List.getD, List.getElem?_replicate, if_pos h]; rfl
  omega
theorem oftP_le (ps : List (Nat × Nat)) : ∀ n ∈ oftP ps, n ≤ ps.length := fun n hn => by
  obtain ⟨s, hs⟩ := List.mem_iff_getElem?.1 hn
  have h19 : s < 19 := by have := (List.getElem?_eq_some_iff.1 hs).1; rw [oftP_len] at this; exact this
  have h1 := oftP_getD ps h19
  rw [List.getD, hs] at h1
  have h2 := List.count_le_length (a := s) (l := ps.map (·.1))
  rw [List.length_map] at h2
  show n ≤ _
  have : n = (ps.map (·.1)).count s := h1
  omega
theorem oftP_pos {ps : List (Nat × Nat)} {t : Nat × Nat} (h : t ∈ ps) (h19 : t.1 < 19) : ∃ x, (oftP ps)[t.1]? = some x ∧ 0 < x := by
  have hs : t.1 < (oftP ps).length := by rw [oftP_len]; exact h19
  refine ⟨_, List.getElem?_eq_getElem hs, ?_⟩
  have h1 := oftP_getD ps h19
  have h2 : 0 < (ps.map (·.1)).count t.1 := List.count_pos_iff.2 (List.mem_map_of_mem h)
  rw [List.getD, List.getElem?_eq_getElem hs] at h1
  have h3 : (oftP ps)[t.1] = (ps.map (·.1)).count t.1 := h1
  omega
/-- The lengths of the numbers' codes. -/
def lnP (ps : List (Nat × Nat)) : List Nat := lensW (oftP ps)
theorem lnP_len (ps : List (Nat × Nat)) : (lnP ps).length = 19 := by rw [lnP, lensW_len, oftP_len]
theorem zN_sum (ns : List Nat) : (zN ns).sum = ((ns.sum : Nat) : Int) := by
  induction ns with
  | nil => rfl
  | cons n ns ih =>
    rw [zN] at ih ⊢
    rw [List.map_cons, List.sum_cons, List.sum_cons, ih]
    push_cast
    rfl
theorem sum_set_one : ∀ (n s : Nat), s < n → ((List.replicate n 0).set s 1).sum = 1
  | 0, s, h => by omega
  | n + 1, 0, _ => by simp [List.replicate_succ]
  | n + 1, s + 1, h => by
    rw [List.replicate_succ, List.set_cons_succ, List.sum_cons, sum_set_one n s (by omega)]
theorem lnP_right {ps : List (Nat × Nat)} {t : Nat × Nat} (h : t ∈ ps) (h19 : t.1 < 19) : caR (zN (lnP ps)) = true := by
  obtain ⟨x, hx, h0⟩ := oftP_pos h h19
  have hl : (oftP ps).length ≤ 16384 := by rw [oftP_len]; omega
  have h1 : (zN (lnP ps)).all lenB = true := List.all_eq_true.2 (lensW_right hl)
  rw [caR, zN_len, lnP_len, h1]
  simp only [Bool.and_true, Bool.and_eq_true, decide_eq_true_eq, Bool.or_eq_true]
  refine ⟨by omega, ?_⟩
  rcases items_cases (oftP ps) with hi | ⟨x0, s0, hi⟩ | hi
  · have := itemsW_has hx h0
    rw [hi] at this
    cases this
  · refine .inr ?_
    rw [zN_sum, lnP, lensW_one hi, sum_set_one _ _ ?_]
    · rfl
    · obtain ⟨h2, _, _⟩ := itemsW_mem (ns := oftP ps) (x := (x0, s0)) (by rw [hi]; simp)
      exact (List.getElem?_eq_some_iff.1 h2).1
  · exact .inl ((lensW_kraft hl).2 hi)
theorem lnP_pos {ps : List (Nat × Nat)} {t : Nat × Nat} (h : t ∈ ps) (h19 : t.1 < 19) : ∃ n, (lnP ps)[t.1]? = some n ∧ 1 ≤ n ∧ n ≤ 15 := by
  obtain ⟨x, hx, h0⟩ := oftP_pos h h19
  have hl : (oftP ps).length ≤ 16384 := by rw [oftP_len]; omega
  obtain ⟨h1, h2⟩ := lensW_pos hl hx
  have h3 := h1.2 h0
  have hs : t.1 < (lnP ps).length := by rw [lnP_len]; exact h19
  have e : (lnP ps).getD t.1 0 = (lnP ps)[t.1] := by rw [List.getD, List.getElem?_eq_getElem hs]; rfl
  have e2 : (lnP ps)[t.1] = (lensW (oftP ps)).getD t.1 0 := e.symm
  exact ⟨_, List.getElem?_eq_getElem hs, by omega, by omega⟩
/-- The bits of the codes' lengths; of one part; of parts; of a table. -/
def lensB (ns : List Nat) : List Bool := ns.flatMap fun n => bitsOf n 4
def partB (zs : List Int) (t : Nat × Nat) : List Bool := symB zs (t.1 : Int) ++ bitsOf (t.2 - (spanP t.1).1) (spanP t.1).2
def partsB (zs : List Int) (ps : List (Nat × Nat)) : List Bool := ps.flatMap (partB zs)
def tabP (ls : List Nat) : List Bool := bitsOf ls.length 9 ++ lensB (lnP (partsP ls 0)) ++ partsB (zN (lnP (partsP ls 0))) (partsP ls 0)
theorem lensB_up {ns : List Nat} {k n : Nat} (h : ns[k]? = some n) : lensB (ns.take (k + 1)) = lensB (ns.take k) ++ bitsOf n 4 := by
  rw [List.take_add_one, h]
  simp [lensB]
theorem lensB_len (ns : List Nat) : (lensB ns).length = 4 * ns.length := by
  induction ns with
  | nil => rfl
  | cons n ns ih =>
    show (bitsOf n 4 ++ lensB ns).length = _
    rw [List.length_append, ih, bitsOf_length, List.length_cons]
    omega
theorem partsB_snoc (zs : List Int) (ps : List (Nat × Nat)) (t : Nat × Nat) : partsB zs (ps ++ [t]) = partsB zs ps ++ partB zs t := by simp [partsB]
theorem symB_len {zs : List Int} (hr : caR zs = true) (s : Int) : (symB zs s).length ≤ 15 := by
  rcases lenAt_cases hr s with ⟨_, _, h⟩ | ⟨t, n, v, k, _, hy, _, _, h, _⟩
  · rw [h]; exact Nat.zero_le _
  · rw [h, codeB_len]; exact hy.few
theorem partB_len {zs : List Int} (hr : caR zs = true) (t : Nat × Nat) : (partB zs t).length ≤ 22 := by
  have h1 := symB_len hr (t.1 : Int)
  have h2 := (spanP_le t.1).2.2
  unfold partB
  rw [List.length_append, bitsOf_length]
  omega
theorem partsB_len {zs : List Int} (hr : caR zs = true) (ps : List (Nat × Nat)) : (partsB zs ps).length ≤ 22 * ps.length := by
  induction ps with
  | nil => exact Nat.zero_le _
  | cons t ps ih =>
    have h1 := partB_len hr t
    show (partB zs t ++ partsB zs ps).length ≤ _
    rw [List.length_append, List.length_cons]
    omega
theorem partsP_num (ls : List Nat) (hv : ∀ x ∈ ls, x ≤ 15) : ∀ k p, ls.length - p ≤ k → ∀ t ∈ partsP ls p, t.1 < 19
  | 0, p, h, t, ht => by rw [partsP_end (by omega)] at ht; cases ht
  | k + 1, p, h, t, ht => by
    by_cases hp : p < ls.length
    · have h1 := manyP_pos hp
      have h2 := numP_le hv p
      rw [partsP_step hp] at ht
      rcases List.mem_cons.1 ht with rfl | ht
      · show numP ls p < 19
        omega
      · exact partsP_num ls hv k _ (by omega) t ht
    · rw [partsP_end hp] at ht
      cases ht
theorem partsP_all {ls : List Nat} (hv : ∀ x ∈ ls, x ≤ 15) : ∀ t ∈ partsP ls 0, t.1 < 19 := partsP_num ls hv ls.length 0 (by omega)
theorem partsP_ne {ls : List Nat} (h : 0 < ls.length) : ∃ t, t ∈ partsP ls 0 := by
  rw [partsP_step h]
  exact ⟨_, List.mem_cons_self⟩
end Go.Proofs.Ytbpgaaecifnohaa
