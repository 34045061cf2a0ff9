/- Layer 9: the table that any bytes begin with: the law. -/
import Derived.Test.YtbpgaaecifnohaaMgRunsTakes47
namespace Go.Proofs.Ytbpgaaecifnohaa
open Go.RowKit BitsP

theorem own_capT {w : World} {base : Nat} {e : TypeId} {size n c : Nat} {A : Option Addr} {xs : List Value} (h : w.ownsRow base e size (.slice A n c) n xs) : n ≤ c := by
  obtain ⟨_, h2⟩ := h
  rcases h2 with ⟨h2, h3⟩ | ⟨g, cap, cur, hv, _, _, hnc, _⟩
  · cases h2
    exact Nat.le_refl _
  · simp only [Value.slice.injEq] at hv
    obtain ⟨_, _, rfl⟩ := hv
    exact hnc
theorem int_cells {W : World} {base : Nat} {A : Option Addr} {n c : Nat} {ns : List Nat} (h : W.ownsRow base 3 1 (.slice A n c) n (nCs ns)) : Cells W W.heap.size A ((ns.map fun n : Nat => (n : Int)).map ic) := by
  rw [nCs_ic]
  exact Cells.of_own h
theorem tkF_len (F : List Int → List Bool → Int × Int × Nat) (L : List Bool) (p : Nat) : (tkF F L p).2.1.length ≤ 100000 := by
  have key : ∀ (zs : List Int) (n : Nat) (L : List Bool), n ≤ 320 → ∀ (k : Nat) (l : List Nat) (p : Nat), l.length ≤ 320 → (lensF F zs n L k l p).2.1.length ≤ 320 := by
    intro zs n L hn k
    induction k with
    | zero => intro l p h; exact h
    | succ k ih =>
      intro l p h
      rw [lensF]
      split
      · exact h
      split
      · exact Nat.zero_le _
      split
      · exact Nat.zero_le _
      split
      · exact Nat.zero_le _
      · refine ih _ _ ?_
        rw [List.length_append, List.length_replicate]
        omega
  unfold tkF
  split
  · exact Nat.zero_le _
  split
  · exact Nat.zero_le _
  split
  · exact Nat.zero_le _
  split
  · exact Nat.zero_le _
  · rename_i h _ _
    exact Nat.le_trans (key _ _ _ (by omega) _ _ _ (Nat.zero_le _)) (by omega)
set_option maxRecDepth 100000 in
set_option maxHeartbeats 2000000 in
theorem rntakes_any (A : Option Addr) (l c : Nat) (bs : List UInt8) (w : World) (hl : bs.length = l) (hm : l ≤ 9223372036854775807) (hb : Bytes w w.heap.size A bs) :
    Calls Try.prog 4 #[.slice A l c] w fun e w' => e = .returned (.bool true) ∧ Below w.heap.size w w' := by
  have HLV := Lib.hid lives9_any
  by_cases h400 : 400 < l
  · clear hb hl
    go_enter Try.func4, Try.ntmps4
    go_wp2_with (go_at_call 6; refine (HLV.out _).mono ?_; rintro e w4 ⟨rfl, hb4⟩; have HB4 := Lib.hid hb4; clear hb4)
    go_ret
    exact ⟨rfl, HB4.out⟩
  obtain ⟨F, hF⟩ := funT_ex
  have HNEW := Lib.hid (rnew_any A l c w.heap.size bs w hl (by omega) (Nat.le_refl _) hb)
  have HTK : Hid (∀ (W : World) (g : Nat) (S : Nat → Prop), RdS W g w.heap.size S bs 0 → _) := fun W g S hW => rntake_any F hF g w.heap.size S bs 0 W hW (by omega)
  have HUN : Hid (∀ W, Below w.heap.size w W → _) := fun W hW => refUnpack_any A l c bs W hl (by omega) ((hb.below hW (Nat.le_refl _)).more hW.size)
  have HRK : Hid (∀ (W : World) (base : Nat) (A2 : Option Addr) (c2 : Nat), OwnB W base 5 (.slice A2 (8 * l) c2) (8 * l) (bitBytes (unpack bs)) → _) := fun W base A2 c2 hW => rrtake_any F hF A2 (8 * l) c2 (unpack bs) 0 W (by rw [unpack_length, hl]) (by omega) (own_capT hW) (Cells.of_own hW) (by omega)
  have HNIL := Lib.hid rntake_nil
  have HTL := Lib.hid (tkF_len F (unpack bs) 0)
  obtain ⟨t, ht⟩ : ∃ t, tkF F (unpack bs) 0 = t := ⟨_, rfl⟩
  rw [ht] at HTK HRK HTL
  obtain ⟨er, ns, pe⟩ := t
  dsimp only at HTK HRK HTL
  obtain ⟨nl, hnl⟩ : ∃ nl, ns.length = nl := ⟨_, rfl⟩
  have HNL := Lib.hid hnl
  rw [hnl] at HTK HRK HTL
  have hnl5 := HTL.out
  have hl400 : l ≤ 400 := by omega
  clear hb hl h400 ht hnl HTL
  go_enter Try.func4, Try.ntmps4
  go_wp2_with fail
  refine HNEW.out.mono ?_
  rintro e w1 ⟨g, S, rfl, hrd, hb1, hS⟩
  have HB1 := Lib.hid hb1
  have HGS : Hid (w.heap.size ≤ g) := hS g (rd_low hrd).2.2
  have HT1 := Lib.hid (HTK.out w1 g S hrd)
  clear hrd hb1 hS
  have hs1 := HB1.out.size
  by_cases her : er = 0
  · subst her
    go_wp2_with (first
      | (go_at_call 14; refine HT1.out.mono ?_; rintro e w2 ⟨A2, c2, p2, rfl, hown, hrd2, hpe, hm2⟩; clear HT1; have HO2 := Lib.hid hown; have HR2 := Lib.hid hrd2; obtain rfl := hpe trivial; have HB2 := Lib.hid (hm2.below HB1.out hs1 (fun k hk => by cases hk; exact HGS.out)); clear hown hrd2 hm2)
      | (go_at_call 16; refine (HUN.out _ HB2.out).mono ?_; rintro e w3 ⟨A3, c3, rfl, hown3, hb3⟩; have HO3 := Lib.hid hown3; have HI3 := Lib.hid (own_keep HO2.out (Mod.of_below hb3) (fun _ _ h => h)); have HR3 := Lib.hid (HR2.out.keep (Mod.of_below hb3) (fun _ _ h => h)); have HB3 := Lib.hid (HB2.out.trans (hb3.mono HB2.out.size)); clear hown3 hb3)
      | (go_at_call 15; refine (HRK.out w3 _ A3 c3 HO3.out).mono ?_; rintro e w4 ⟨A4, c4, rfl, hown4, hb4⟩; have HI4 := Lib.hid (int_cells (own_keep HI3.out (Mod.of_below hb4) (fun _ _ h => h))); have HJ4 := Lib.hid (int_cells hown4); have HR4 := Lib.hid (HR3.out.keep (Mod.of_below hb4) (fun _ _ h => h)); have HB4 := Lib.hid (HB3.out.trans (hb4.mono HB3.out.size)); clear hown4 hb4)
      | (go_at_call 14; refine (HNIL.out _).mono ?_; rintro e w' ⟨rfl, rfl⟩)
      | (go_at_call 17; refine (ref7Ints_any A2 A4 nl c2 c4 (ns.map fun n : Nat => (n : Int)) (ns.map fun n : Nat => (n : Int)) w4.heap.size w4 (by rw [List.length_map]; exact HNL.out) (by rw [List.length_map]; exact HNL.out) (by omega) HI4.out HJ4.out rfl).mono ?_; rintro e w5 ⟨rfl, m5, rfl⟩)
      | (go_at_call 18; refine (rat_any g w.heap.size S bs _ _ (show RdS (w4.drewN m5) g w.heap.size S bs _ from HR4.out)).mono ?_; rintro e w6 ⟨rfl, rfl⟩)
      | (go_at_call 6; refine (HLV.out _).mono ?_; rintro e w10 ⟨rfl, hb10⟩; have HB10 := Lib.hid hb10; clear hb10))
    go_ret
    exact ⟨rfl, (show Below w.heap.size w (w4.drewN m5) from ⟨HB4.out.os, HB4.out.tape, HB4.out.output, HB4.out.size, HB4.out.block⟩).trans (HB10.out.mono HB4.out.size)⟩
  · have t3 : (er != 0) = true := by simpa using her
    have t4 : (er == er) = true := by simp
    clear her
    go_wp2_with (first
      | (go_at_call 14; refine HT1.out.mono ?_; rintro e w2 ⟨A2, c2, p2, rfl, hown, hrd2, hpe, hm2⟩; clear HT1; have HO2 := Lib.hid hown; have HR2 := Lib.hid hrd2; have HPE := Lib.hid hpe; have HB2 := Lib.hid (hm2.below HB1.out hs1 (fun k hk => by cases hk; exact HGS.out)); clear hown hrd2 hpe hm2)
      | (go_at_call 16; refine (HUN.out _ HB2.out).mono ?_; rintro e w3 ⟨A3, c3, rfl, hown3, hb3⟩; have HO3 := Lib.hid hown3; have HI3 := Lib.hid (own_keep HO2.out (Mod.of_below hb3) (fun _ _ h => h)); have HR3 := Lib.hid (HR2.out.keep (Mod.of_below hb3) (fun _ _ h => h)); have HB3 := Lib.hid (HB2.out.trans (hb3.mono HB2.out.size)); clear hown3 hb3)
      | (go_at_call 15; refine (HRK.out w3 _ A3 c3 HO3.out).mono ?_; rintro e w4 ⟨A4, c4, rfl, hown4, hb4⟩; have HI4 := Lib.hid (int_cells (own_keep HI3.out (Mod.of_below hb4) (fun _ _ h => h))); have HJ4 := Lib.hid (int_cells hown4); have HR4 := Lib.hid (HR3.out.keep (Mod.of_below hb4) (fun _ _ h => h)); have HB4 := Lib.hid (HB3.out.trans (hb4.mono HB3.out.size)); clear hown4 hb4)
      | (go_at_call 14; refine (HNIL.out _).mono ?_; rintro e w' ⟨rfl, rfl⟩)
      | (go_at_call 17; refine (ref7Ints_any A2 A4 nl c2 c4 (ns.map fun n : Nat => (n : Int)) (ns.map fun n : Nat => (n : Int)) w4.heap.size w4 (by rw [List.length_map]; exact HNL.out) (by rw [List.length_map]; exact HNL.out) (by omega) HI4.out HJ4.out rfl).mono ?_; rintro e w5 ⟨rfl, m5, rfl⟩)
      | (go_at_call 6; refine (HLV.out _).mono ?_; rintro e w10 ⟨rfl, hb10⟩; have HB10 := Lib.hid hb10; clear hb10))
    go_ret
    exact ⟨rfl, (show Below w.heap.size w (w4.drewN m5) from ⟨HB4.out.os, HB4.out.tape, HB4.out.output, HB4.out.size, HB4.out.block⟩).trans (HB10.out.mono HB4.out.size)⟩
end Go.Proofs.Ytbpgaaecifnohaa
