/- Layer 8: a symbol is taken. -/
import Derived.Test.YtaknladkodibaaaGreatDoorMgQ12816
import Derived.Test.YtaknladkodibaaaGreatDoorMgQ12825
import Derived.Test.YtaknladkodibaaaGreatDoorMgQ12815
import Derived.WalkMore
import Derived.Deep.RegionHeld3
import Derived.Test.YtaknladkodibaaaGreatDoorMgQ12805
import Derived.Test.YtaknladkodibaaaGreatDoorMgQ12802
namespace Go.Proofs.YtaknladkodibaaaGreatDoor
open Go.RowKit BitsP

end Go.Proofs.YtaknladkodibaaaGreatDoor
/- Layer 8: the reference's Take over a row of bits. -/
namespace Go.Proofs.YtaknladkodibaaaGreatDoor
open Go.RowKit BitsP Go.Maps

/-- Two rows of bits begin alike, as far as both go. -/
def begB (a b : List Bool) : Bool := decide (a.take b.length = b.take a.length)
/-- What the reference has seen of the symbols ahead of one. -/
def SeenT (zs : List Int) (U : List Bool) (i : Nat) (er : Int) : Prop :=
  (∀ s n v k, s < i → Sym zs s n v k → n ≤ U.length → begB (codeB v n) U = false) ∧
  ((er = 2 ∧ (U.length = 0 ∨ ∃ s n v k, Sym zs s n v k ∧ U.length < n)) ∨ (er = 13 ∧ U.length ≠ 0 ∧ ∀ s n v k, s < i → Sym zs s n v k → U.length < n → begB (codeB v n) U = false))
theorem SeenT.start (zs : List Int) (U : List Bool) : SeenT zs U 0 (if U.length = 0 then 2 else 13) := by
  refine ⟨fun s n v k h => by omega, ?_⟩
  by_cases h : U.length = 0
  · exact .inl ⟨if_pos h, .inl h⟩
  · exact .inr ⟨if_neg h, h, fun s n v k h => by omega⟩
/-- A symbol that has no code, or whose code isn't what they begin with. -/
theorem SeenT.skip {zs : List Int} {U : List Bool} {i : Nat} {er : Int} (h : SeenT zs U i er) (hi : ∀ n v k, Sym zs i n v k → begB (codeB v n) U = false) : SeenT zs U (i + 1) er := by
  refine ⟨fun s n v k hs hy hn => ?_, ?_⟩
  · rcases Nat.lt_or_ge s i with h1 | h1
    · exact h.1 s n v k h1 hy hn
    · obtain rfl : s = i := by omega
      exact hi n v k hy
  · rcases h.2 with h2 | ⟨h2, h3, h4⟩
    · exact .inl h2
    · refine .inr ⟨h2, h3, fun s n v k hs hy hn => ?_⟩
      rcases Nat.lt_or_ge s i with h1 | h1
      · exact h4 s n v k h1 hy hn
      · obtain rfl : s = i := by omega
        exact hi n v k hy
/-- They begin a longer code. -/
theorem SeenT.long {zs : List Int} {U : List Bool} {i n v k : Nat} {er : Int} (h : SeenT zs U i er) (hy : Sym zs i n v k) (hn : U.length < n) : SeenT zs U (i + 1) 2 := by
  refine ⟨fun s n' v' k' hs hy' hn' => ?_, .inl ⟨rfl, .inr ⟨i, n, v, k, hy, hn⟩⟩⟩
  rcases Nat.lt_or_ge s i with h1 | h1
  · exact h.1 s n' v' k' h1 hy' hn'
  · obtain rfl : s = i := by omega
    have := (hy.one_val hy' rfl).1
    omega
end Go.Proofs.YtaknladkodibaaaGreatDoor
/- Layer 9, plainly: what is taken of a table's bits. -/
namespace Go.Proofs.YtaknladkodibaaaGreatDoor
open BitsP

section
variable (F : List Int → List Bool → Int × Int × Nat)
end
end Go.Proofs.YtaknladkodibaaaGreatDoor
/- Layer 8: a symbol's code is written. -/
namespace Go.Proofs.YtaknladkodibaaaGreatDoor
open Go.RowKit BitsP

set_option maxHeartbeats 400000 in
theorem revb_any (x : Nat) (w : World) (hx : x < 4294967296) :
    Calls Tryz.prog 197 #[.int .u32 (x : Int)] w fun e w' => e = .returned (.int .u32 (stepR 16 65535 (stepR 8 16711935 x) : Nat)) ∧ w = w' := by
  have h8 := stepR_int (k := 8) (m := 16711935) hx (by decide)
  have l8 := stepR_lt 8 16711935 x (by decide)
  obtain ⟨y, hy⟩ : ∃ y, stepR 8 16711935 x = y := ⟨_, rfl⟩
  rw [hy] at h8 l8 ⊢
  have h16 := step16_int l8
  obtain ⟨z, hz⟩ : ∃ z, stepR 16 65535 y = z := ⟨_, rfl⟩
  rw [hz] at h16 ⊢
  have h8' : bits .or .u32 (bits .and .u32 ((x : Int) / 256) 16711935) (bits .and .u32 (x : Int) 16711935 * 256 % 4294967296) = (y : Int) := h8
  clear hy hz hx h8 l8
  go_enter Tryz.func197, Tryz.ntmps197
  go_wp2
  go_ret
  exact ⟨rfl, rfl⟩
set_option maxHeartbeats 1000000 in
theorem rev_any (x : Nat) (w : World) (hx : x < 4294967296) :
    Calls Tryz.prog 157 #[.int .u32 (x : Int)] w fun e w' => e = .returned (.int .u32 (rev32 x : Nat)) ∧ w = w' := by
  unfold rev32
  have h1 := stepR_int (k := 1) (m := 1431655765) hx (by decide)
  have l1 := stepR_lt 1 1431655765 x (by decide)
  obtain ⟨y1, hy1⟩ : ∃ y, stepR 1 1431655765 x = y := ⟨_, rfl⟩
  rw [hy1] at h1 l1 ⊢
  have h2 := stepR_int (k := 2) (m := 858993459) l1 (by decide)
  have l2 := stepR_lt 2 858993459 y1 (by decide)
  obtain ⟨y2, hy2⟩ : ∃ y, stepR 2 858993459 y1 = y := ⟨_, rfl⟩
  rw [hy2] at h2 l2 ⊢
  have h3 := stepR_int (k := 4) (m := 252645135) l2 (by decide)
  have l3 := stepR_lt 4 252645135 y2 (by decide)
  obtain ⟨y3, hy3⟩ : ∃ y, stepR 4 252645135 y2 = y := ⟨_, rfl⟩
  rw [hy3] at h3 l3 ⊢
  have HB := Lib.hid (revb_any y3 w l3)
  obtain ⟨z, hz⟩ : ∃ z, stepR 16 65535 (stepR 8 16711935 y3) = z := ⟨_, rfl⟩
  rw [hz] at HB ⊢
  have h1' : bits .or .u32 (bits .and .u32 ((x : Int) / 2) 1431655765) (bits .and .u32 (x : Int) 1431655765 * 2 % 4294967296) = (y1 : Int) := h1
  have h2' : bits .or .u32 (bits .and .u32 ((y1 : Int) / 4) 858993459) (bits .and .u32 (y1 : Int) 858993459 * 4 % 4294967296) = (y2 : Int) := h2
  have h3' : bits .or .u32 (bits .and .u32 ((y2 : Int) / 16) 252645135) (bits .and .u32 (y2 : Int) 252645135 * 16 % 4294967296) = (y3 : Int) := h3
  clear hy1 hy2 hy3 hz hx h1 h2 h3 l1 l2 l3
  go_enter Tryz.func157, Tryz.ntmps157
  go_wp2_with (go_at_call 197; refine HB.out.mono ?_; rintro e w' ⟨rfl, rfl⟩)
  go_ret
  exact ⟨rfl, rfl⟩
/-- The bits of a symbol: none, if it has no code. -/
def symB (zs : List Int) (s : Int) : List Bool := if 0 < lenAt zs s then codeB ((caV zs).getD s.toNat 0).toNat (lenAt zs s).toNat else []
def hasB (zs : List Int) (s : Int) : Bool := decide (0 < lenAt zs s)
theorem lenAt_cases {zs : List Int} (hr : caR zs = true) (s : Int) : (lenAt zs s = 0 ∧ hasB zs s = false ∧ symB zs s = []) ∨
    ∃ t n v k : Nat, s = (t : Int) ∧ Sym zs t n v k ∧ lenAt zs s = (n : Int) ∧ hasB zs s = true ∧ symB zs s = codeB v n ∧ v < 2 ^ n := by
  by_cases h0 : 0 ≤ s
  · obtain ⟨t, rfl⟩ := Int.eq_ofNat_of_zero_le h0
    by_cases ht : t < zs.length
    · obtain ⟨x, hx⟩ : ∃ x, zs[t]? = some x := ⟨_, List.getElem?_eq_getElem ht⟩
      have hb := lenB_yes ((caR_len hr).2 x (List.mem_of_getElem? hx))
      obtain ⟨n, rfl⟩ := Int.eq_ofNat_of_zero_le hb.1
      have hl : lenAt zs (t : Int) = (n : Int) := by rw [lenAt, if_pos h0, Int.toNat_natCast, getD_of hx]
      by_cases h1 : 1 ≤ n
      · obtain ⟨v, k, hs⟩ := sym_of hx h1 (by omega)
        refine .inr ⟨t, n, v, k, rfl, hs, hl, ?_, ?_, hs.lt hr⟩
        · unfold hasB; rw [hl]; exact decide_eq_true (by omega)
        · unfold symB; rw [hl, if_pos (by omega), Int.toNat_natCast, Int.toNat_natCast, getD_of hs.val, Int.toNat_natCast]
      · have h2 : n = 0 := by omega
        subst h2
        exact .inl ⟨hl, by unfold hasB; rw [hl]; rfl, by unfold symB; rw [hl]; rfl⟩
    · have hl : lenAt zs (t : Int) = 0 := by rw [lenAt, if_pos h0, List.getD, List.getElem?_eq_none (by rw [Int.toNat_natCast]; omega)]; rfl
      exact .inl ⟨hl, by unfold hasB; rw [hl]; rfl, by unfold symB; rw [hl]; rfl⟩
  · have hl : lenAt zs s = 0 := by rw [lenAt, if_neg h0]
    exact .inl ⟨hl, by unfold hasB; rw [hl]; rfl, by unfold symB; rw [hl]; rfl⟩
theorem LC.mod {w w' : World} {g : Nat} {zs : List Int} {S : Nat → Prop} (h : LC w g zs) (hm : Mod S w w') (hS : ∀ k, S k → g < k) : LC w' g zs := by
  obtain ⟨A1, A2, A3, c1, c2, c3, m, hcb, hmx, h1, h2, h3⟩ := h
  have hg := cb_lt hcb
  have key : ∀ {A : Option Addr} {xs : List Value}, Cells w g A xs → Cells w' g A xs := fun hc hp => by
    obtain ⟨b, o, e, hb, hcc⟩ := hc hp
    exact ⟨b, o, e, hb, fun j u hj => (World.cell?_of_block (a := ⟨b, o + j, none⟩) (hm.block b (by omega) (fun hs => by have := hS b hs; omega))).trans (hcc j u hj)⟩
  exact ⟨A1, A2, A3, c1, c2, c3, m, hm.keep hcb (fun hs => by have := hS g hs; omega), hmx, key h1, key h2, key h3⟩
set_option maxHeartbeats 1000000 in
theorem put8_any (g q base : Nat) (zs : List Int) (S : Nat → Prop) (L : List Bool) (s : Int) (w : World) (hr : caR zs = true) (h : LC w g zs) (hw : WrS w q base S L) (hL : L.length ≤ 1000000000) (hbase : base ≤ w.heap.size) :
    Calls Tryz.prog 111 #[.pointer (some ⟨g, 0, none⟩), .pointer (some ⟨q, 0, none⟩), .int .i64 s] w
      fun e w' => e = .returned (.bool (hasB zs s)) ∧ ∃ S', WrS w' q base S' (L ++ symB zs s) ∧ Mod S w w' ∧ ∀ k, S' k → S k ∨ w.heap.size ≤ k := by
  have hzl := (caR_len hr).1
  have HLN := Lib.hid (len_any g zs s w h (by omega))
  rcases lenAt_cases hr s with ⟨e1, e2, e3⟩ | ⟨t, n, v, k, rfl, hs, e1, e2, e3, hvn⟩
  · rw [e1] at HLN
    have HW := Lib.hid hw
    have HE2 := Lib.hid e2
    have HE3 := Lib.hid e3
    clear h hw e1 e2 e3
    go_enter Tryz.func111, Tryz.ntmps111
    go_wp2_with (go_at_call 156; refine HLN.out.mono ?_; rintro e w' ⟨rfl, rfl⟩)
    go_ret
    exact ⟨by rw [HE2.out]; rfl, S, by rw [HE3.out, List.append_nil]; exact HW.out, Mod.refl _ _, fun k hk => .inl hk⟩
  · obtain ⟨A1, A2, A3, c1, c2, c3, m, hcb, hmx, h1, h2, h3⟩ := h
    obtain ⟨p0, p1, p2, p3⟩ := cb_pre hcb
    have hvl := (List.getElem?_eq_some_iff.1 hs.val).1
    have htl := (List.getElem?_eq_some_iff.1 hs.len).1
    obtain ⟨b, o, rfl, hb, hc2⟩ := h2 (by rw [List.length_map]; omega)
    have c0 : w.cell? ⟨b, o + t, none⟩ = some (.int .i64 (v : Int)) := hc2 t _ (by rw [List.getElem?_map, hs.val]; rfl)
    have h15 := hs.few
    have h1n := hs.one
    have hp15 : (2 : Nat) ^ n ≤ 32768 := Nat.le_trans (Nat.pow_le_pow_right (by decide) h15) (by decide)
    have hv15 : v < 32768 := by omega
    have hwv : IntKind.u32.wrap (v : Int) = (v : Int) := IntWalk.u32_in _ (by omega)
    have HRV := Lib.hid (rev_any v w (by omega))
    obtain ⟨d, hd⟩ : ∃ d, 32 - n = d := ⟨_, rfl⟩
    have hsub : IntKind.i64.wrap (32 - (n : Int)) = (d : Int) := by rw [IntWalk.i64_in _ (by omega)]; omega
    have hcode := rev32_code (v := v) (n := n) (by omega)
    have hrl := rev32_lt v
    rw [hd] at hcode
    obtain ⟨X, hX⟩ : ∃ X, rev32 v = X := ⟨_, rfl⟩
    rw [hX] at HRV hcode hrl
    obtain ⟨Y, hY⟩ : ∃ Y, X / 2 ^ d = Y := ⟨_, rfl⟩
    rw [hY] at hcode
    have hYX : Y ≤ X := by rw [← hY]; exact Nat.div_le_self _ _
    have hsh : (X : Int) / 2 ^ d = (Y : Int) := by rw [← hY]; simp
    have HPW := Lib.hid (wput_any q base S L (Y : Int) (n : Int) w hw (by omega) hbase (by omega) (by omega) (by omega) (by omega))
    rw [cnt_nat (by omega), Int.toNat_natCast, hcode] at HPW
    rw [e1] at HLN
    have t0 : ((n : Int) == 0) = false := by simp; omega
    have t0' : (n == 0) = false := by simp; omega
    have HE2 := Lib.hid e2
    have HE3 := Lib.hid e3
    have hd31 : d ≤ 31 := by omega
    clear hX hY hcode hs h1 h3 hc2 hw e1 e2 e3 hcb hvn hd hp15
    go_enter Tryz.func111, Tryz.ntmps111
    go_wp2_with (first
      | (go_at_call 156; refine HLN.out.mono ?_; rintro e w' ⟨rfl, rfl⟩)
      | (go_at_call 157; refine HRV.out.mono ?_; rintro e w' ⟨rfl, rfl⟩)
      | (go_at_call 155; refine HPW.out.mono ?_; rintro e w5 ⟨rfl, hx⟩; have HX := Lib.hid hx; clear hx))
    go_ret
    exact ⟨by rw [HE2.out]; rfl, by rw [HE3.out]; exact HX.out⟩
end Go.Proofs.YtaknladkodibaaaGreatDoor
