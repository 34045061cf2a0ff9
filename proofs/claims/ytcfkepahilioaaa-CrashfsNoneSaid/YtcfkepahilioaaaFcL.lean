/- Layer 6: the chapter's example. -/
import Derived.Test.YtcfkepahilioaaaFcR
namespace Go.Proofs.Ytcfkepahilioaaa
open Go.RowKit Go.Maps

theorem sort_two : ([2] : List Int).mergeSort (fun x y => decide (x ≤ y)) = [2] := by simp
theorem one_below {W w1 w2 : World} {d B : Nat} (hb : Below B W w1) (hm : Mod (oneB d) w1 w2) (hB : B ≤ d) (hz : B ≤ w1.heap.size) : Below B W w2 := hm.below hb hz (fun k hk => by have : k = d := hk; omega)
set_option maxRecDepth 100000 in
set_option maxHeartbeats 2000000 in
theorem lives6_any (w : World) : Calls Try.prog 21 #[] w fun e w' => e = .returned (.bool true) ∧ Below w.heap.size w w' := by
  go_enter Try.func21, Try.ntmps21
  go_upto_region 2 with (go_at_call 20; refine (fsnew 9 w).mono ?_; rintro e W1 ⟨rfl, cp, hd1, hb1⟩; have HD1 := Lib.hid hd1; have HB1 := Lib.hid hb1; clear hd1 hb1)
  have hz1 := HB1.out.size
  have hdl : w.heap.size < W1.heap.size := HD1.out.dlt
  have HA2 : Hid (Below W1.heap.size W1 (W1.alloc (.cells #[.int .i64 2] 3))) := (Below.refl _ W1).alloc (Nat.le_refl _) _
  have HC2 : Hid (Cells (W1.alloc (.cells #[.int .i64 2] 3)) (W1.heap.size + 1) (some ⟨W1.heap.size, 0, none⟩) (intCs [2])) := intNew W1 2
  have HS2 : Hid ((W1.alloc (.cells #[.int .i64 2] 3)).heap.size = W1.heap.size + 1) := World.size_alloc ..
  go_upto_region 3 with (go_at_call 5; refine (refuse6_any (HD1.out.below HA2.out) (some ⟨W1.heap.size, 0, none⟩) 1 1 [2] (W1.heap.size + 1) rfl (by omega) HC2.out).mono ?_; rintro e W3 ⟨rfl, v, hd3, ho3, hm3⟩; rw [sort_two] at ho3; have HD3 := Lib.hid hd3; have HO3 := Lib.hid ho3; have HM3 := Lib.hid hm3; clear hd3 ho3 hm3)
  obtain ⟨g, c, rfl⟩ : ∃ g c, v = .slice (some ⟨g, 0, none⟩) 1 c := by
    rcases ownK_form HO3.out with ⟨_, h0⟩ | ⟨g, c, h0⟩
    · cases h0
    · exact ⟨g, c, h0⟩
  obtain ⟨cur, hgc, htk, hgw, hnc, hcm, hcs, hxl⟩ := ownK_row HO3.out
  obtain ⟨c, rfl⟩ : ∃ k, c = k + 1 := ⟨c - 1, by omega⟩
  have hgd : g ≠ w.heap.size := by have := HS2.out; omega
  have HG3 : Hid (W3.cell? ⟨g, 0, none⟩ = some (.int .i64 2)) := by
    have := seg_cells hgc 0 (intCs [2]) (by rw [List.drop_zero, hxl]; exact htk) 0 (.int .i64 2) rfl
    rwa [Addr.add_lit] at this
  have HGL : Hid (g < W3.heap.size) := (Array.getElem?_eq_some_iff.1 hgc).1
  have HB3 : Hid (Below w.heap.size w W3) := one_below (HB1.out.trans (HA2.out.mono hz1)) HM3.out (Nat.le_refl _) (by have := HS2.out; omega)
  clear hgc htk hgw hnc hcm hcs hxl HC2 HM3 HO3
  have hz3 := HB3.out.size
  go_upto_region 4 with (go_at_call 7; refine (create6_first HD3.out 0 (by omega) rfl g 0 0 (c + 1) 2 rfl hgd HG3.out (by omega) rfl).mono ?_; rintro e W4 ⟨rfl, ⟨v4, F', now, ws, hd4⟩, hm4⟩; have HD4 := Lib.hid hd4; have HM4 := Lib.hid hm4; clear hd4 hm4)
  obtain ⟨bn, bs, Aw, cw, hD4⟩ := HD4.out
  have HDB := Lib.hid hD4
  clear hD4 HD4
  have HB4 : Hid (Below w.heap.size w W4) := one_below HB3.out HM4.out (Nat.le_refl _) hz3
  have hz4 := HB4.out.size
  have HA5 : Hid (Below W4.heap.size W4 (W4.alloc (.cells #[.int .u8 1] 5))) := (Below.refl _ W4).alloc (Nat.le_refl _) _
  have HG5 : Hid ((W4.alloc (.cells #[.int .u8 1] 5)).cell? ⟨g, 0, none⟩ = some (.int .i64 2)) := by
    show _ = _
    have h1 : W4.heap[g]? = W3.heap[g]? := HM4.out.block g HGL.out (fun e => hgd e)
    have h2 := HA5.out.block g (Nat.lt_of_lt_of_le HGL.out HM4.out.size)
    have h3 := HG3.out
    unfold World.cell? at h3 ⊢
    rw [h2, h1]
    exact h3
  go_upto_region 5 with (go_at_call 11; refine (write6_this (HDB.out.below HA5.out) 1 0 (by omega) (by omega) rfl rfl g 0 c rfl hgd HG5.out 0 0 _ _ _).mono ?_; rintro e W6 ⟨rfl, ⟨A6, c6, hd6⟩, hm6⟩; have HD6 := Lib.hid hd6; have HM6 := Lib.hid hm6; clear hd6 hm6)
  have HB6 : Hid (Below w.heap.size w W6) := one_below (HB4.out.trans (HA5.out.mono hz4)) HM6.out (Nat.le_refl _) (by have := HA5.out.size; omega)
  go_wp2_with (go_at_call 10; refine (calls6_any HD6.out 2 1 rfl rfl).mono ?_; rintro e W7 ⟨rfl, hb7⟩; have HB7 := Lib.hid (HB6.out.trans (hb7.mono HB6.out.size)); clear hb7)
  go_ret
  exact ⟨rfl, HB7.out⟩
end Go.Proofs.Ytcfkepahilioaaa
