/- The walks of FieldPuts and FieldGets. -/
import Derived.Test.YtlbjamnbbkaooaaFieldPut
import Derived.Deep.RegionWith
import Derived.Deep.DrawnRows
namespace Go.Proofs.Ytlbjamnbbkaooaa
open Go.RowKit FieldP
attribute [local go_sem ↓] Go.wp_at_zero Go.wp_at_succ

theorem some_one {o : Option Nat} {n : Int} {b : Bool} (h : orZero o = (n, b)) : (orZero o).1 = n ∧ (orZero o).2 = b := by rw [h]; exact ⟨rfl, rfl⟩

set_option maxRecDepth 100000 in
set_option maxHeartbeats 400000 in
theorem gets_walk (A : Option Addr) (l c : Nat) (bs : List UInt8) (a b : Int) (w : World) (hl : bs.length = l) (hm : l ≤ 9223372036854775807)
    (a0 : -9223372036854775808 ≤ a) (a1 : a ≤ 9223372036854775807) (b0 : -9223372036854775808 ≤ b) (b1 : b ≤ 9223372036854775807) (hb : Bytes w w.heap.size A bs) :
    Calls Try.prog 4 #[.slice A l c, .int .i64 a, .int .i64 b] w fun e w' => e = .returned (.bool true) ∧ Below w.heap.size w w' := by
  have HG := Lib.hid (get_any A l c bs _ a b w hl hm a0 a1 b0 b1 hb)
  have HR := Lib.hid (refGet_any A l c bs _ a b w hl hm a0 a1 b0 b1 hb)
  clear hl hm hb a0 a1 b0 b1
  generalize (orZero (getN bs a (FieldP.cnt b))).1 = n at *
  generalize (orZero (getN bs a (FieldP.cnt b))).2 = k at *
  cases k
  all_goals
    go_enter Try.func4, Try.ntmps4
    go_wp2_with (first | (go_at_call 14; refine HG.out.mono ?_; rintro e w' ⟨rfl, rfl⟩) | (go_at_call 15; refine HR.out.mono ?_; rintro e w' ⟨rfl, rfl⟩) | (go_at_call 11; refine (lives_any _).mono ?_; rintro e w4 ⟨rfl, hb4⟩; have HB4 := Lib.hid hb4; clear hb4))
    go_ret
    exact ⟨rfl, HB4.out⟩

theorem joined (a b : List UInt8) : (⟨a.toArray⟩ : ByteArray) ++ ⟨b.toArray⟩ = ⟨(a ++ b).toArray⟩ := by
  rw [ByteArray.mk_append_mk]

set_option maxRecDepth 100000 in
set_option maxHeartbeats 1000000 in
theorem puts_walk (A : Option Addr) (l c : Nat) (bs : List UInt8) (n b : Int) (w : World) (hl : bs.length = l) (hm : l ≤ 9223372036854775807)
    (n0 : 0 ≤ n) (n1 : n < 4294967296) (b0 : -9223372036854775808 ≤ b) (b1 : b ≤ 9223372036854775807) (hb : Bytes w w.heap.size A bs) :
    Calls Try.prog 3 #[.slice A l c, .int .u32 n, .int .i64 b] w fun e w' => e = .returned (.bool true) ∧ Below w.heap.size w w' := by
  by_cases hbig : 3000 < l
  · have hbi : (3000 : Int) < (l : Int) := by omega
    clear hb hl
    go_enter Try.func3, Try.ntmps3
    go_wp2_with (go_at_call 11; refine (lives_any _).mono ?_; rintro e w4 ⟨rfl, hb4⟩; have HB4 := Lib.hid hb4; clear hb4)
    go_ret
    exact ⟨rfl, HB4.out⟩
  have hbi : ¬ (3000 : Int) < (l : Int) := by omega
  have HL := Lib.hid hl
  have HB : Hid (Bytes w w.heap.size A bs) := hb
  have HPUT := Lib.hid (fun v l bs base w h => put_any v l bs n b base w h n0 n1 b0 b1)
  have HREF := Lib.hid (fun w => refPut_any n b w n0 n1 b0 b1)
  have hc4 := cnt_le b
  clear hl hb n0 n1 b0 b1
  generalize cnt b = q at *
  have HPL := Lib.hid (putN_length n.toNat q)
  generalize putN n.toNat q = ps at *
  go_enter Try.func3, Try.ntmps3
  go_wp2_with (at_builtin; refine wpList_app _ byteElem rfl (.tmp 12) (.tmp 13) rfl w.heap.size (.slice (some ⟨w.heap.size, 0, none⟩) 0 0) 0 [] rfl (own_empty w _ (Nat.le_refl _)) w.heap.size A l c (byteCells bs) rfl (by rw [byteCells_length, HL.out, Nat.mul_one]) (HB.out.alloc (Nat.le_refl _) _) (byteCells_one _) (by unfold maxLen; omega) (by omega) (by simp) ?_; intro A1 c1 w1 hA; have HA := Lib.hid hA; clear hA)
  simp only [Nat.zero_add, List.nil_append] at HA ⊢
  refine (HPUT.out _ l bs w.heap.size w1 (by omega) HA.out.own (by have := HA.out.grow.size; simp at this; omega)).mono ?_
  rintro e w2 ⟨A2, c2, rfl, happ⟩
  have HOWN2 := Lib.hid (Cells.of_own happ.own)
  have HBEL := Lib.hid (happ.below (HA.out.below (((Below.refl w.heap.size w).alloc (Nat.le_refl _) (.cells #[] 5))) (by simp) (by simp [Value.ownBlock])) (by have := HA.out.grow.size; simp at this; omega) (own_base HA.out.own))
  have HB2 := Lib.hid (HB.out.below HBEL.out (Nat.le_refl _))
  clear happ HA HPUT HB
  go_wp2_with fail
  have hS := joined bs ps
  have hcv : ∀ (W : World) (A : Option Addr) (l c B : Nat) (bs : List UInt8), Bytes W B A bs → bs.length = l → (convert 22 9 (.slice A l c)).run Try.prog W = .ok (.string ⟨bs.toArray⟩) W := fun W A l c B bs h hl => run_string_of 22 9 5 Try.underlying22 Try.underlying5 Try.underlying9 h hl
  have HCV := Lib.hid hcv
  clear hcv
  have k1 := HCV.out w2.drew A2 (l + q) c2 _ (bs ++ ps) HOWN2.out (by rw [List.length_append, HL.out, HPL.out])
  have k2 := HCV.out w2.drew A l c _ bs HB2.out HL.out
  have hz1 : (⟨bs.toArray⟩ : ByteArray).size ≤ 3000 := by show bs.toArray.size ≤ 3000; rw [List.size_toArray, HL.out]; omega
  have hz2 : (⟨ps.toArray⟩ : ByteArray).size ≤ 4 := by show ps.toArray.size ≤ 4; rw [List.size_toArray, HPL.out]; omega
  generalize hs1 : (⟨bs.toArray⟩ : ByteArray) = s1 at *
  generalize hs2 : (⟨ps.toArray⟩ : ByteArray) = s2 at *
  generalize hs3 : (⟨(bs ++ ps).toArray⟩ : ByteArray) = s3 at *
  have HS1 := Lib.hid hs1
  have HS2 := Lib.hid hs2
  have HS3 := Lib.hid hs3
  clear hs1 hs2 hs3
  have hz : ¬ 9223372036854775807 < s1.size + s2.size := by omega
  clear hz1 hz2 hbi hbig hm hc4
  go_region_with (first
    | (go_at_call 13; refine (HREF.out _).mono ?_; rintro e w3 ⟨A3, c3, rfl, hown, hbel⟩; have HO3 := Lib.hid hown; have HB3 := Lib.hid hbel; clear hown hbel; have k3 := HCV.out w3 A3 q c3 _ ps (Cells.of_own HO3.out) HPL.out; have k4 := HCV.out w3 A2 (l + q) c2 _ (bs ++ ps) (HOWN2.out.drew.below HB3.out (Nat.le_refl _)) (by rw [List.length_append, HL.out, HPL.out]); have k5 := HCV.out w3 A l c _ bs (HB2.out.drew.below HB3.out HBEL.out.size) HL.out; rw [HS2.out] at k3; rw [HS3.out] at k4; rw [HS1.out] at k5)
    | (go_at_call 11; refine (lives_any _).mono ?_; rintro e w4 ⟨rfl, hb4⟩; have HB4 := Lib.hid hb4; clear hb4))
  all_goals
    go_wp2
    go_ret
    exact ⟨rfl, ((HBEL.out.drew.trans (HB3.out.mono HBEL.out.size)).trans (HB4.out.mono (Nat.le_trans HBEL.out.size HB3.out.size)))⟩
end Go.Proofs.Ytlbjamnbbkaooaa
