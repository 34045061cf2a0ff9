/- strings.Split at bytes 47. -/
import Derived.Test.YtmcblagpindncaaDoorMbO
namespace Go.Proofs.YtmcblagpindncaaDoor
open Go.RowKit

theorem parts_count : ∀ l : List UInt8, (partsS l).length = Lib.countByte l 47 + 1
  | [] => rfl
  | x :: l => by
    have ih := parts_count l
    unfold Lib.countByte at ih ⊢
    unfold partsS
    by_cases hx : x = 47
    · subst hx
      rw [if_pos rfl, List.length_cons, ih, List.count_cons_self]
    · rw [if_neg hx, List.count_cons_of_ne hx]
      split
      · rename_i p ps h; rw [h] at ih; simpa using ih
      · rename_i h; exact (partsL_ne l h).elim
theorem textInfo : (Tryd.prog.info? 9).map (fun i => (i.zero, i.size, i.bytes)) = some (some (.string ⟨#[]⟩), 1, 16) := by kernel_rfl
theorem make_texts (n : Nat) (hn : n ≤ 1000000) (W : World) :
    (Instr.makeSlice 24 (.int .i64 (n : Int)) (.int .i64 (n : Int))).run Tryd.prog W = .ok (.slice (some ⟨W.heap.size, 0, none⟩) n n) (W.alloc (.cells (madeCells #[.string ⟨#[]⟩] n) 9)) := by
  obtain ⟨i0, hi, hz0, hz1, hz2⟩ := info_parts textInfo
  have h := run_make (P := Tryd.prog) W 24 9 i0 (.string ⟨#[]⟩) Tryd.underlying24 hi hz0 .i64 .i64 n n (by omega) (Int.le_refl _) (by rw [hz2]; omega) (by omega)
  simp only [Int.toNat_natCast, hz1, Nat.mul_one] at h
  exact h
theorem made_texts (n : Nat) : madeCells #[Value.string ⟨#[]⟩] n = (textCells (List.replicate n [])).toArray := by
  apply Array.toList_inj.1
  rw [toList_madeCells_one]
  unfold textCells
  simp
set_option maxRecDepth 100000 in
set_option maxHeartbeats 4000000 in
theorem genSplitT_any (s : ByteArray) (w : World) (hs : s.size ≤ 1000) :
    Calls Tryd.prog 33 #[.string s, .string ⟨#[47]⟩, .int .i64 0, .int .i64 (-1)] w fun e w' => ∃ A c, e = .returned (.slice A (partsS s.data.toList).length c) ∧ w'.ownsRow w.heap.size 9 1 (.slice A (partsS s.data.toList).length c) (partsS s.data.toList).length (textCells (partsS s.data.toList)) ∧ Below w.heap.size w w' := by
  have HCN := Lib.hid (fun W => (Tryd.strings_Count_one s 47 W).mono fun _ _ h => And.intro h.1 h.2.symm)
  have hpc := parts_count s.data.toList
  have hpl := partsL_length s.data.toList
  rw [show s.data.toList.length = s.size from rfl] at hpl
  obtain ⟨n, hn⟩ : ∃ n, (partsS s.data.toList).length = n := ⟨_, rfl⟩
  rw [hn] at hpc hpl ⊢
  obtain ⟨cn, hcn⟩ : ∃ cn, Lib.countByte s.data.toList 47 = cn := ⟨_, rfl⟩
  rw [hcn] at HCN hpc
  subst hpc
  have HN := Lib.hid hn
  have HIX := Lib.hid (fun (x : ByteArray) W => (strings_Index_one x 47 W).mono fun _ _ h => And.intro h.1 h.2.symm)
  have hw1 : IntKind.i64.wrap ((cn : Int) + 1) = (cn : Int) + 1 := IntWalk.i64_in _ (by omega)
  have hw2 : IntKind.i64.wrap ((s.size : Int) + 1) = (s.size : Int) + 1 := IntWalk.i64_in _ (by omega)
  have hw3 : IntKind.i64.wrap (cn : Int) = (cn : Int) := IntWalk.i64_in _ (by omega)
  have hm1 : (if (s.size : Int) + 1 < (cn : Int) + 1 then (s.size : Int) + 1 else (cn : Int) + 1) = (cn : Int) + 1 := by split <;> omega
  have hm2 : (if (cn : Int) + 1 < (s.size : Int) + 1 then (cn : Int) + 1 else (s.size : Int) + 1) = (cn : Int) + 1 := by split <;> omega
  have hm3 : min ((cn : Int) + 1) ((s.size : Int) + 1) = (cn : Int) + 1 := by omega
  have hm4 : (if (s.size : Int) < (cn : Int) then (s.size : Int) + 1 else (cn : Int) + 1) = (cn : Int) + 1 := by split <;> omega
  have hm5 : (if (cn : Int) < (s.size : Int) then (cn : Int) + 1 else (s.size : Int) + 1) = (cn : Int) + 1 := by split <;> omega
  obtain ⟨w1, hw1'⟩ : ∃ w1, w.alloc (.cells (madeCells #[.string ⟨#[]⟩] (cn + 1)) 9) = w1 := ⟨_, rfl⟩
  have hmk : (Instr.makeSlice 24 (.int .i64 ((cn : Int) + 1)) (.int .i64 ((cn : Int) + 1))).run Tryd.prog w = .ok (.slice (some ⟨w.heap.size, 0, none⟩) (cn + 1) (cn + 1)) w1 := by rw [← hw1']; exact make_texts (cn + 1) (by omega) w
  have hx1 : w1.heap[w.heap.size]? = some (.cells (textCells (List.replicate (cn + 1) [])).toArray 9) := by rw [← hw1', made_texts]; exact heap_alloc_new w _
  have HO1 : Hid (w1.ownsRow w.heap.size 9 1 (.slice (some ⟨w.heap.size, 0, none⟩) (cn + 1) (cn + 1)) (cn + 1) (textCells (List.replicate (cn + 1) []))) :=
    ownK_of hx1 (Nat.le_refl _) (Nat.le_refl _) (by unfold maxLen; omega) (by rw [List.size_toArray, text_len, List.length_replicate, Nat.mul_one]) (by rw [Nat.mul_one, List.take_of_length_le (by show (textCells (List.replicate (cn + 1) [])).length ≤ _; rw [text_len, List.length_replicate]; exact Nat.le_refl _)])
  have HB1 : Hid (Below w.heap.size w w1) := by show Below _ _ _; rw [← hw1']; exact (Below.refl _ w).alloc (Nat.le_refl _) _
  clear hn hcn hx1 hw1'
  go_enter Tryd.func33, Tryd.ntmps33
  go_wp2_with (go_at_call 44; refine (HCN.out _).mono ?_; rintro e w' ⟨rfl, rfl⟩)
  go_loopg [0, 10] cn (fun gk v i wr => ∃ (k : Nat) (sr : ByteArray) (pre : List (List UInt8)), k + gk = cn ∧ i = .int .i64 (k : Int) ∧ v = .string sr ∧ pre.length = k ∧ sr.size ≤ s.size ∧ partsS s.data.toList = pre ++ partsS sr.data.toList ∧ wr.ownsRow w.heap.size 9 1 (.slice (some ⟨w.heap.size, 0, none⟩) (cn + 1) (cn + 1)) (cn + 1) (textCells (pre ++ [] :: List.replicate (cn - k) [])) ∧ Below w.heap.size w wr)
  case atStart => exact ⟨0, s, [], by omega, rfl, rfl, rfl, Nat.le_refl _, rfl, by rw [Nat.sub_zero]; exact HO1.out, HB1.out⟩
  case round =>
    obtain ⟨k, sr, pre, hk, rfl, rfl, hpre, hsr, hps, hown, hbel⟩ := hrel
    have HPS := Lib.hid hps
    have HPR := Lib.hid hpre
    have HO := Lib.hid hown
    have HBL := Lib.hid hbel
    obtain ⟨cur, hg, _, _, _, _, _, _⟩ := ownK_row hown
    have e0 : wr.cell? ⟨w.heap.size, k, none⟩ = some (.string ⟨#[]⟩) := own_text_at hown hpre
    have f0 : wr.frozen? ⟨w.heap.size, k, none⟩ = false := frozen_of_row wr _ k _ _ hg
    have hlr : (partsS sr.data.toList).length = cn + 1 - k := by
      have h1 := HN.out
      rw [hps, List.length_append, hpre] at h1
      omega
    have hki : (k : Int) < (cn : Int) + 1 := by omega
    have hw4 : IntKind.i64.wrap ((k : Int) + 1) = (k : Int) + 1 := IntWalk.i64_in _ (by omega)
    by_cases h : k < cn
    · obtain ⟨i, hi⟩ : ∃ i : Nat, Lib.indexByte sr.data.toList 47 = (i : Int) := by
        by_cases h0 : Lib.indexByte sr.data.toList 47 < 0
        · rw [parts_none h0] at hlr; simp at hlr; omega
        · exact ⟨(Lib.indexByte sr.data.toList 47).toNat, by omega⟩
      obtain ⟨hil, hpp⟩ := parts_some hi
      rw [show sr.data.toList.length = sr.size from rfl] at hil
      have HX := Lib.hid (HIX.out sr)
      rw [hi] at HX
      have HE1 := Lib.hid (extract_take sr i)
      have HE2 := Lib.hid (extract_drop sr (i + 1))
      have hge : ¬ ((i : Int) < 0) := by omega
      have hw5 : IntKind.i64.wrap ((i : Int) + 1) = (i : Int) + 1 := IntWalk.i64_in _ (by omega)
      have hw6 : IntKind.i64.wrap (i : Int) = (i : Int) := IntWalk.i64_in _ (by omega)
      have hil2 : i ≤ sr.size := by omega
      have hil3 : i + 1 ≤ sr.size := by omega
      have hkc : (k : Int) < (cn : Int) := by omega
      have HST := Lib.hid (own_text_set (y := sr.data.toList.take i) hown hpre (by omega))
      have HPP := Lib.hid hpp
      clear hown hbel hg hps hpre hlr hi hpp h
      go_wp2_with (go_at_call 45; refine (HX.out _).mono ?_; rintro e w2 ⟨rfl, rfl⟩)
      go_roundg (gk - 1)
      case measure => omega
      case rel =>
        have hst := HST.out
        rw [← HE1.out] at hst
        refine ⟨k + 1, sr.extract (i + 1) sr.size, pre ++ [sr.data.toList.take i], by omega, by go_num, rfl, by rw [List.length_append, HPR.out]; rfl, ?_, ?_, ?_, HBL.out.setCell (Nat.le_refl _) _⟩
        · rw [HE2.out, txt_size, List.length_drop]
          have : sr.data.toList.length = sr.size := rfl
          omega
        · rw [HPS.out, HPP.out, HE2.out]
          simp
        · have e1 : cn - k = (cn - (k + 1)) + 1 := by omega
          rw [e1, List.replicate_succ] at hst
          rw [List.append_assoc]
          exact hst
    · obtain rfl : k = cn := by omega
      have hno : Lib.indexByte sr.data.toList 47 < 0 := by
        by_cases h0 : Lib.indexByte sr.data.toList 47 < 0
        · exact h0
        · obtain ⟨_, hpp⟩ := parts_some (l := sr.data.toList) (i := (Lib.indexByte sr.data.toList 47).toNat) (by omega)
          have := List.length_pos_iff.2 (partsL_ne (sr.data.toList.drop ((Lib.indexByte sr.data.toList 47).toNat + 1)))
          rw [hpp, List.length_cons] at hlr
          omega
      have hpn := parts_none hno
      have HST := Lib.hid (own_text_set (y := sr.data.toList) hown hpre (by omega))
      have HALL : Hid (pre ++ sr.data.toList :: List.replicate (k - k) [] = partsS s.data.toList) := by show _ = _; rw [hps, hpn, Nat.sub_self]; rfl
      clear hown hbel hg hps hpre hlr hno hpn h
      go_wp2
      go_ret
      have hst := HST.out
      rw [HALL.out, show (⟨sr.data.toList.toArray⟩ : ByteArray) = sr from by cases sr; simp] at hst
      exact ⟨_, _, rfl, hst, HBL.out.setCell (Nat.le_refl _) _⟩
end Go.Proofs.YtmcblagpindncaaDoor
