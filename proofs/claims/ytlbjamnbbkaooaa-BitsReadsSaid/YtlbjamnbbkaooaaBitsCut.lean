/- The contract of layer 3's lives, and the walk of BitsCut. -/
import Derived.Test.YtlbjamnbbkaooaaBitsWr
import Derived.Deep.RegionWith
namespace Go.Proofs.Ytlbjamnbbkaooaa
open Go.RowKit BitsP
attribute [local go_sem ↓] Go.wp_at_zero Go.wp_at_succ

theorem WrS.keep {w w' : World} {g base : Nat} {S T : Nat → Prop} {L : List Bool} (h : WrS w g base S L) (hm : Mod T w w') (hd : ∀ k, S k → ¬ T k) : WrS w' g base S L := by
  obtain ⟨whole, R, hsp, A, c, hb, hown, rfl⟩ := h
  exact ⟨whole, R, hsp, A, c, hm.keep hb (hd g (.inl rfl)), own_keep hown hm (fun k hk => hd k (.inr hk)), rfl⟩
theorem WrS.lt {w : World} {g base : Nat} {S : Nat → Prop} {L : List Bool} (h : WrS w g base S L) : ∀ k, S k → k < w.heap.size := by
  obtain ⟨whole, R, hsp, A, c, hb, hown, rfl⟩ := h
  intro k hk
  rcases hk with rfl | hk
  · exact hb.lt
  · exact own_lt hown k hk
/-- The cells of a zero writer. -/
def zeroWr : Array Value := #[.slice none 0 0, .int .u64 0, .int .i64 0]
theorem ownS_nil (k : Nat) : ¬ ownS (.slice none 0 0) k := fun h => by cases h
theorem WrS.zero {w : World} {g : Nat} (base : Nat) (h : w.heap[g]? = some (.cells zeroWr 47 (0, 0))) : WrS w g base (oneB g) [] := by
  refine ⟨[], [], Split.nil, none, 0, h, World.ownsRow_nil _ _ _ _, ?_⟩
  funext k
  apply propext
  exact ⟨fun h => .inl h, fun h => h.elim id fun h => absurd h (ownS_nil k)⟩

theorem str_any (w : World) (A : Option Addr) (l c B : Nat) (bs : List UInt8) (h : Bytes w B A bs) (hl : bs.length = l) : (convert 22 9 (.slice A l c)).run Try.prog w = .ok (.string ⟨bs.toArray⟩) w :=
  run_string_of 22 9 5 Try.underlying22 Try.underlying5 Try.underlying9 h hl

theorem lives_bits : pack (([] ++ bitsOf (5 : Int).toNat (cnt 3)) ++ bitsOf (1 : Int).toNat (cnt 1)) = [13] := by decide
theorem lives_len : (([] ++ bitsOf (5 : Int).toNat (cnt 3)) ++ bitsOf (1 : Int).toNat (cnt 1)).length = 4 := by decide

set_option maxRecDepth 100000 in
set_option maxHeartbeats 1000000 in
theorem lives3_any (w : World) : Calls Try.prog 22 #[] w fun e w' => e = .returned (.bool true) ∧ Below w.heap.size w w' := by
  go_enter Try.func22, Try.ntmps22
  go_wp2_with fail
  have HW := Lib.hid (WrS.zero (w := w.alloc (.cells zeroWr 47)) w.heap.size (heap_alloc_new w _))
  have HB := Lib.hid ((Below.refl w.heap.size w).alloc (Nat.le_refl _) (.cells zeroWr 47))
  refine (wput_any w.heap.size w.heap.size (oneB w.heap.size) [] _ _ (w.alloc (.cells zeroWr 47)) HW.out (by simp) (by simp) (by omega) (by omega) (by omega) (by omega)).mono ?_
  rintro e w2 ⟨rfl, S2, hw, hm, hs⟩
  have HW2 := Lib.hid hw
  have HB2 := Lib.hid (hm.below HB.out HB.out.size (fun k hk => by cases hk; exact Nat.le_refl _))
  have hS2 : ∀ k, S2 k → w.heap.size ≤ k := fun k hk => by rcases hs k hk with h | h; (cases h; exact Nat.le_refl _); (simp at h; omega)
  have HS2 := Lib.hid hS2
  clear hw hm hs hS2 HW HB
  go_wp2_with fail
  refine (wput_any w.heap.size w.heap.size S2 _ _ _ w2 HW2.out (by decide) HB2.out.size (by omega) (by omega) (by omega) (by omega)).mono ?_
  rintro e w3 ⟨rfl, S3, hw, hm, hs⟩
  have HW3 := Lib.hid hw
  have HB3 := Lib.hid (hm.below HB2.out HB2.out.size HS2.out)
  clear hw hm hs
  go_wp2_with fail
  refine (wbytes_any w.heap.size w.heap.size S3 _ w3 HW3.out (by decide)).mono ?_
  rintro e w4 ⟨A, c, rfl, hown, hbel⟩
  rw [lives_bits] at hown
  rw [lives_bits]
  have hc := str_any w4 A 1 c _ [13] (Cells.of_own hown) rfl
  have HLEN := Lib.hid (wlen_any w.heap.size w.heap.size S3 _ w4 (HW3.out.keep (Mod.of_below hbel) (fun _ _ h => h)) (by decide))
  rw [lives_len] at HLEN
  have HB4 := Lib.hid (HB3.out.trans (hbel.mono HB3.out.size))
  clear hown hbel
  rw [show ([13] : List UInt8).length = 1 from rfl]
  go_wp2_with (go_at_call 27; refine HLEN.out.mono ?_; rintro e w1 ⟨rfl, nd, rfl⟩)
  go_ret
  exact ⟨rfl, ⟨HB4.out.os, HB4.out.tape, HB4.out.output, HB4.out.size, HB4.out.block⟩⟩

/-- Calls that make memory alone, one behind the other. -/
theorem close_four {B : Nat} {W w w4 w5 w7 : World} {nd : Nat} (h : Below B W w) (h4 : Below w.drew.heap.size w.drew w4) (h5 : Below w4.heap.size w4 w5) (h7 : Below (w5.drewN nd).heap.size (w5.drewN nd) w7) (hB : B ≤ w.heap.size) : Below B W w7 := by
  have a4 : Below B W w4 := h.drew.trans (h4.mono hB)
  have b4 : B ≤ w4.heap.size := Nat.le_trans hB h4.size
  have a5 : Below B W w5 := a4.trans (h5.mono b4)
  have b5 : B ≤ w5.heap.size := Nat.le_trans b4 h5.size
  have a6 : Below B W (w5.drewN nd) := ⟨a5.os, a5.tape, a5.output, a5.size, a5.block⟩
  exact a6.trans (h7.mono b5)

theorem cut_big (n a b : Int) (w : World) (h : a < 0 ∨ b < 0 ∨ 32 < a ∨ 32 - a < b) :
    Calls Try.prog 10 #[.int .u32 n, .int .i64 a, .int .i64 b] w fun e w' => e = .returned (.bool true) ∧ Below w.heap.size w w' := by
  by_cases h1 : a < 0
  · clear h
    go_enter Try.func10, Try.ntmps10
    go_wp2_with (go_at_call 22; refine (lives3_any _).mono ?_; rintro e w4 ⟨rfl, hb4⟩; have HB4 := Lib.hid hb4; clear hb4)
    go_ret
    exact ⟨rfl, HB4.out⟩
  by_cases h2 : b < 0
  · clear h
    go_enter Try.func10, Try.ntmps10
    go_wp2_with (go_at_call 22; refine (lives3_any _).mono ?_; rintro e w4 ⟨rfl, hb4⟩; have HB4 := Lib.hid hb4; clear hb4)
    go_ret
    exact ⟨rfl, HB4.out⟩
  by_cases h3 : 32 < a
  · clear h
    go_enter Try.func10, Try.ntmps10
    go_wp2_with (go_at_call 22; refine (lives3_any _).mono ?_; rintro e w4 ⟨rfl, hb4⟩; have HB4 := Lib.hid hb4; clear hb4)
    go_ret
    exact ⟨rfl, HB4.out⟩
  have h4 : 32 - a < b := by omega
  clear h
  go_enter Try.func10, Try.ntmps10
  go_wp2_with (go_at_call 22; refine (lives3_any _).mono ?_; rintro e w4 ⟨rfl, hb4⟩; have HB4 := Lib.hid hb4; clear hb4)
  go_ret
  exact ⟨rfl, HB4.out⟩

set_option maxRecDepth 100000 in
set_option maxHeartbeats 1000000 in
theorem cut_walk (n a b : Nat) (w : World) (hn : n < 4294967296) (ha : a ≤ 32) (hb : b ≤ 32 - a) :
    Calls Try.prog 10 #[.int .u32 n, .int .i64 a, .int .i64 b] w fun e w' => e = .returned (.bool true) ∧ Below w.heap.size w w' := by
  have d1 : decide ((a : Int) < 0) = false := by simp
  have d2 : decide ((b : Int) < 0) = false := by simp
  have d3 : decide ((32 : Int) < (a : Int)) = false := by simp; omega
  have d4 : decide ((32 : Int) - (a : Int) < (b : Int)) = false := by simp; omega
  have HAB : Hid (cnt ((a : Int) + (b : Int)) = a + b) := by show _ = _; have := cnt_nat (k := a + b) (by omega); rwa [show ((a + b : Nat) : Int) = (a : Int) + b by omega] at this
  have HA : Hid (cnt (a : Int) = a) := cnt_nat (by omega)
  have HBB : Hid (cnt (b : Int) = b) := cnt_nat (by omega)
  go_enter Try.func10, Try.ntmps10
  go_wp2_with fail
  have HV0 := Lib.hid (WrS.zero (w := (w.alloc (.cells zeroWr 47)).alloc (.cells zeroWr 47)) w.heap.size (heap_alloc2_old w _ _))
  have hsz1 : (w.alloc (.cells zeroWr 47)).heap.size = w.heap.size + 1 := by simp
  have hw0 := WrS.zero (w := (w.alloc (.cells zeroWr 47)).alloc (.cells zeroWr 47)) w.heap.size (heap_alloc2_new w (.cells zeroWr 47) (.cells zeroWr 47))
  have HW0 := Lib.hid hw0
  have HBEL := Lib.hid (((Below.refl w.heap.size w).alloc (Nat.le_refl _) (.cells zeroWr 47)).alloc (by simp) (.cells zeroWr 47))
  have HSZ : Hid (((w.alloc (.cells zeroWr 47)).alloc (.cells zeroWr 47)).heap.size = w.heap.size + 2) := by show _ = _; simp
  clear hsz1 hw0
  refine (wput_any w.heap.size w.heap.size _ [] _ _ ((w.alloc (.cells zeroWr 47)).alloc (.cells zeroWr 47)) HV0.out (by simp) HBEL.out.size (by omega) (by omega) (by omega) (by omega)).mono ?_
  rintro e w1 ⟨rfl, S1, hv, hm, hs⟩
  rw [HAB.out, Int.toNat_natCast, List.nil_append] at hv
  have HV1 := Lib.hid hv
  have HBEL1 := Lib.hid (hm.below HBEL.out HBEL.out.size (fun k hk => by cases hk; exact Nat.le_refl _))
  have HW1 := Lib.hid (HW0.out.keep hm (fun k hk (hk2 : k = w.heap.size) => by have hk : k = w.heap.size + 1 := hk; omega))
  have HS1 : Hid (∀ k, S1 k → k = w.heap.size ∨ w.heap.size + 2 ≤ k) := fun k hk => by rcases hs k hk with h | h; (exact .inl h); (rw [HSZ.out] at h; exact .inr h)
  have HSZ1 : Hid (w.heap.size + 2 ≤ w1.heap.size) := by have := hm.size; rw [HSZ.out] at this; exact this
  clear hv hm hs HV0 HW0 HBEL HSZ
  go_wp2_with fail
  refine (wput_any (w.heap.size + 1) w.heap.size _ [] _ _ w1 HW1.out (by simp) HBEL1.out.size (by omega) (by omega) (by omega) (by omega)).mono ?_
  rintro e w2 ⟨rfl, S2, hv, hm, hs⟩
  rw [HA.out, Int.toNat_natCast, List.nil_append] at hv
  have HW2 := Lib.hid hv
  have HBEL2 := Lib.hid (hm.below HBEL1.out HBEL1.out.size (fun k hk => by cases hk; omega))
  have HV2 := Lib.hid (HV1.out.keep hm (fun k hk (hk2 : k = w.heap.size + 1) => by rcases HS1.out k hk with h | h <;> omega))
  have HS2 : Hid (∀ k, S2 k → k = w.heap.size + 1 ∨ w1.heap.size ≤ k) := hs
  have HL1 := Lib.hid HV1.out.lt
  clear hv hm hs HV1 HW1
  have HD : Hid (∀ k, S1 k → ¬ S2 k) := fun k h1 h2 => by
    have h3 := HL1.out k h1
    rcases HS2.out k h2 with h | h
    · rcases HS1.out k h1 with h4 | h4 <;> omega
    · omega
  have HG2 : Hid (∀ k, S2 k → w.heap.size ≤ k) := fun k h2 => by rcases HS2.out k h2 with h | h; omega; (have := HSZ1.out; omega)
  have HL2 := Lib.hid HV2.out.lt
  clear HS2 HL1 HS1 HBEL1 HSZ1
  by_cases h32 : a < 32
  · have HSUM : Hid (bitsOf n a ++ bitsOf ((n : Int) / 2 ^ a).toNat (cnt (b : Int)) = bitsOf n (a + b)) := by
      show _ = _
      rw [bitsOf_add, HBB.out, p2_pow]
      congr 2
    have hsn : ((n : Int) / 2 ^ a) = ((n / 2 ^ a : Nat) : Int) := by simp
    have hq0 : 0 ≤ ((n : Int) / 2 ^ a) := by rw [hsn]; exact Int.natCast_nonneg _
    have hd32 : decide ((a : Int) < 32) = true := by simp; omega
    have hq1 : ((n : Int) / 2 ^ a) < 4294967296 := by
      rw [hsn]
      have : n / 2 ^ a ≤ n := Nat.div_le_self _ _
      omega
    clear hsn
    go_wp2_with fail
    refine (wput_any (w.heap.size + 1) w.heap.size S2 _ ((n : Int) / 2 ^ a) _ w2 HW2.out (by rw [bitsOf_length]; omega) HBEL2.out.size hq0 hq1 (by omega) (by omega)).mono ?_
    rintro e w3 ⟨rfl, S3, hv, hm, hs⟩
    rw [HSUM.out] at hv
    have HW3 := Lib.hid hv
    have HBEL3 := Lib.hid (hm.below HBEL2.out HBEL2.out.size HG2.out)
    have HV3 := Lib.hid (HV2.out.keep hm HD.out)
    clear hv hm hs hq0 hq1 HV2 HW2 HBEL2
    go_wp2_with fail
    have HPL : Hid ((pack (bitsOf n (a + b)) ).length ≤ 32) := by have := pack_length (bitsOf n (a + b)); rw [bitsOf_length] at this; show _ ≤ _; omega
    have HVL : Hid ((bitsOf n (a + b)).length = a + b) := bitsOf_length _ _
    generalize bitsOf n (a + b) = L at *
    generalize w.heap.size + 1 = g2 at *
    generalize hP : pack L = P at *
    generalize hS : (⟨P.toArray⟩ : ByteArray) = str at *
    have HP := Lib.hid hP
    have HSTR := Lib.hid hS
    clear hP hS HAB HA HBB d1 d2 d3 d4 hd32
    have hwab : IntKind.i64.wrap ((a : Int) + (b : Int)) = (a : Int) + (b : Int) := IntWalk.i64_in _ (by omega)
    have HE : Hid (((a + b : Nat) : Int) = (a : Int) + (b : Int)) := by show _ = _; omega
    go_region_with (first
      | (go_at_call_of 28 (Value.pointer (some ⟨w.heap.size, 0, none⟩)); refine (wbytes_any w.heap.size w.heap.size S1 L w3.drew HV3.out (by rw [HVL.out]; omega)).mono ?_; rintro e w4 ⟨A4, c4, rfl, hown, hbel⟩; rw [HP.out] at hown; rw [HP.out]; have HO4 := Lib.hid (Cells.of_own hown); have HM4 := Lib.hid hbel; have k4 := str_any w4 A4 P.length c4 _ P HO4.out rfl; rw [HSTR.out] at k4; clear hown hbel)
      | (go_at_call_of 28 (Value.pointer (some ⟨g2, 0, none⟩)); refine (wbytes_any g2 w.heap.size _ L w4 (WrS.keep (w := w3.drew) HW3.out (Mod.of_below HM4.out) (fun _ _ h => h)) (by rw [HVL.out]; omega)).mono ?_; rintro e w5 ⟨A5, c5, rfl, hown, hbel⟩; rw [HP.out] at hown; rw [HP.out]; have HO5 := Lib.hid (Cells.of_own hown); have HM5 := Lib.hid hbel; have k5 := str_any w5 A5 P.length c5 _ P HO5.out rfl; have k6 := str_any w5 A4 P.length c4 _ P (HO4.out.below HM5.out (Nat.le_refl _)) rfl; rw [HSTR.out] at k5; rw [HSTR.out] at k6; clear hown hbel)
      | (go_at_call 27; refine (wlen_any w.heap.size w.heap.size S1 L w5 (WrS.keep (WrS.keep (w := w3.drew) HV3.out (Mod.of_below HM4.out) (fun _ _ h => h)) (Mod.of_below HM5.out) (fun _ _ h => h)) (by rw [HVL.out]; omega)).mono ?_; rintro e w6 ⟨rfl, nd, rfl⟩; rw [HVL.out, HE.out])
      | (go_at_call 22; refine (lives3_any _).mono ?_; rintro e w7 ⟨rfl, hb7⟩; have HB7 := Lib.hid hb7; clear hb7))
    all_goals
      go_wp2
      go_ret
      exact ⟨rfl, close_four HBEL3.out HM4.out HM5.out HB7.out HBEL3.out.size⟩
  · have hd32 : decide ((a : Int) < 32) = false := by simp; omega
    obtain rfl : b = 0 := by omega
    have HW3 : Hid (WrS w2 (w.heap.size + 1) w.heap.size S2 (bitsOf n (a + 0))) := HW2.out
    have HBEL3 := HBEL2
    have HV3 := HV2
    clear HBEL2 HV2 HW2
    go_wp2_with fail
    have HPL : Hid ((pack (bitsOf n (a + 0)) ).length ≤ 32) := by have := pack_length (bitsOf n (a + 0)); rw [bitsOf_length] at this; show _ ≤ _; omega
    have HVL : Hid ((bitsOf n (a + 0)).length = a + 0) := bitsOf_length _ _
    generalize bitsOf n (a + 0) = L at *
    generalize w.heap.size + 1 = g2 at *
    generalize hP : pack L = P at *
    generalize hS : (⟨P.toArray⟩ : ByteArray) = str at *
    have HP := Lib.hid hP
    have HSTR := Lib.hid hS
    clear hP hS HAB HA HBB d1 d2 d3 d4 hd32
    have hwab : IntKind.i64.wrap (a : Int) = (a : Int) := IntWalk.i64_in _ (by omega)
    have HE : Hid (((a + 0 : Nat) : Int) = (a : Int)) := by show _ = _; omega
    go_region_with (first
      | (go_at_call_of 28 (Value.pointer (some ⟨w.heap.size, 0, none⟩)); refine (wbytes_any w.heap.size w.heap.size S1 L w2.drew HV3.out (by rw [HVL.out]; omega)).mono ?_; rintro e w4 ⟨A4, c4, rfl, hown, hbel⟩; rw [HP.out] at hown; rw [HP.out]; have HO4 := Lib.hid (Cells.of_own hown); have HM4 := Lib.hid hbel; have k4 := str_any w4 A4 P.length c4 _ P HO4.out rfl; rw [HSTR.out] at k4; clear hown hbel)
      | (go_at_call_of 28 (Value.pointer (some ⟨g2, 0, none⟩)); refine (wbytes_any g2 w.heap.size _ L w4 (WrS.keep (w := w2.drew) HW3.out (Mod.of_below HM4.out) (fun _ _ h => h)) (by rw [HVL.out]; omega)).mono ?_; rintro e w5 ⟨A5, c5, rfl, hown, hbel⟩; rw [HP.out] at hown; rw [HP.out]; have HO5 := Lib.hid (Cells.of_own hown); have HM5 := Lib.hid hbel; have k5 := str_any w5 A5 P.length c5 _ P HO5.out rfl; have k6 := str_any w5 A4 P.length c4 _ P (HO4.out.below HM5.out (Nat.le_refl _)) rfl; rw [HSTR.out] at k5; rw [HSTR.out] at k6; clear hown hbel)
      | (go_at_call 27; refine (wlen_any w.heap.size w.heap.size S1 L w5 (WrS.keep (WrS.keep (w := w2.drew) HV3.out (Mod.of_below HM4.out) (fun _ _ h => h)) (Mod.of_below HM5.out) (fun _ _ h => h)) (by rw [HVL.out]; omega)).mono ?_; rintro e w6 ⟨rfl, nd, rfl⟩; rw [HVL.out, HE.out])
      | (go_at_call 22; refine (lives3_any _).mono ?_; rintro e w7 ⟨rfl, hb7⟩; have HB7 := Lib.hid hb7; clear hb7))
    all_goals
      go_wp2
      go_ret
      exact ⟨rfl, close_four HBEL3.out HM4.out HM5.out HB7.out HBEL3.out.size⟩

theorem cut_all (n a b : Int) (w : World) (n0 : 0 ≤ n) (n1 : n < 4294967296) :
    Calls Try.prog 10 #[.int .u32 n, .int .i64 a, .int .i64 b] w fun e w' => e = .returned (.bool true) ∧ Below w.heap.size w w' := by
  by_cases h : a < 0 ∨ b < 0 ∨ 32 < a ∨ 32 - a < b
  · exact cut_big n a b w h
  · obtain ⟨m, rfl⟩ := Int.eq_ofNat_of_zero_le n0
    obtain ⟨x, rfl⟩ := Int.eq_ofNat_of_zero_le (show 0 ≤ a by omega)
    obtain ⟨y, rfl⟩ := Int.eq_ofNat_of_zero_le (show 0 ≤ b by omega)
    exact cut_walk m x y w (by omega) (by omega) (by omega)
end Go.Proofs.Ytlbjamnbbkaooaa
