/- Layer 14: slices.Chunk of at most 65535 bytes: the bytes, if there are any. -/
import Derived.Test.YtnccbnadfgilaaaPcOf
namespace Go.Proofs.Ytnccbnadfgilaaa
open Go.RowKit Go.Shelf CrcP FieldP
attribute [local go_sem] Oper.semAt_some

set_option maxHeartbeats 400000 in
theorem chunk_any (A : Option Addr) (l c : Nat) (w : World) :
    Calls Try.prog 47 #[.slice A l c, .int .i64 65535] w fun e w' => e = .returned (.func (.func 56) #[] #[.pointer (some ⟨w.heap.size, 0, none⟩), .pointer (some ⟨w.heap.size + 1, 0, none⟩)]) ∧
      (w.alloc (.cells #[.slice A l c] 22)).alloc (.cells #[.int .i64 65535] 3) = w' := by
  go_enter Try.func47, Try.ntmps47
  go_wp2
  go_ret
  exact ⟨rfl, rfl⟩
/-- What is told: the bytes, if there are any. -/
def ckS (bs : List UInt8) : List (List UInt8) := if bs = [] then [] else [bs]
set_option maxRecDepth 100000 in
set_option maxHeartbeats 1000000 in
theorem chunk_seq (n B b1 b2 : Nat) (A : Option Addr) (l c : Nat) (bs : List UInt8) (w0 : World) (hl : bs.length = l) (hm : l ≤ 65535) (hcap : l ≤ c) (hb : Bytes w0 n A bs) (hn : n ≤ w0.heap.size) (hB : B < w0.heap.size) (hB1 : b1 ≠ B) (hB2 : b2 ≠ B) (hown : ownOf B w0 = none)
    (h1 : w0.heap[b1]? = some (.cells #[.slice A l c] 22 (0, 0))) (h2 : w0.heap[b2]? = some (.cells #[.int .i64 65535] 3 (0, 0))) :
    SeqR Fence.wide 5 Try.prog 56 #[.pointer (some ⟨b1, 0, none⟩), .pointer (some ⟨b2, 0, none⟩)] pcE (KpB n B) (fun _ => False) (fun xs => xs.map (·.1) = ckS bs) (fun _ => True) pcX (fun _ _ => True) 1 w0 := by
  intro gy J Jx W hbl hJ hJx hY h0
  have HL := Lib.hid hl
  have h1W := (hbl.block b1 (Array.getElem?_eq_some_iff.1 h1).1).trans h1
  have h2W := (hbl.block b2 (Array.getElem?_eq_some_iff.1 h2).1).trans h2
  have hbW := hb.below (hbl.mono hn) (Nat.le_refl _)
  have hoW : ownOf B W = none := (ownOf_block (hbl.block B hB)).trans hown
  have c1 : W.cell? ⟨b1, 0, none⟩ = some (.slice A l c) := cell_of_row W b1 0 _ _ _ h1W
  have c2 : W.cell? ⟨b2, 0, none⟩ = some (.int .i64 65535) := cell_of_row W b2 0 _ _ _ h2W
  have hnW : n ≤ W.heap.size := Nat.le_trans hn hbl.size
  have HB := Lib.hid hbW
  have HO := Lib.hid hoW
  have H1 := Lib.hid h1W
  have H2 := Lib.hid h2W
  have HY := Lib.hid hY
  have HJ := Lib.hid hJ
  clear h1 h2 hb hown hl hbl hn hB h1W h2W hbW hoW hY hJ
  refine callsIn_of_wp Try.func56 rfl trivial ?_ rfl
  simp only [Try.ntmps56, List.size_toArray, List.length_cons, List.length_nil, Nat.reduceAdd, Nat.reduceSub, Array.replicate_succ, Array.replicate_zero, List.push_toArray, List.append_toArray, List.nil_append, List.cons_append]
  gi_wp2
  gi_loopw [4] (fun i wr => (i = .int .i64 0 ∧ wr = W) ∨ (∃ x : PcV, i = .int .i64 65535 ∧ 1 ≤ l ∧ x.1 = bs ∧ wr.cell? ⟨b1, 0, none⟩ = some (.slice A l c) ∧ J [x] wr)) (fun i _ => 65535 - (intOf i).toNat)
  case atStart => exact .inl ⟨rfl, rfl⟩
  case round =>
    rcases hrel with ⟨rfl, rfl⟩ | ⟨x, rfl, hl1, hx, c1', hJx'⟩
    · by_cases hl0 : l = 0
      · have HS : Hid (ckS bs = []) := by show _ = _; unfold ckS; rw [if_pos (List.eq_nil_of_length_eq_zero (by rw [HL.out]; exact hl0))]
        have t0 : ¬ (0 : Int) < (l : Int) := by omega
        have t0' : decide (0 < l) = false := by simp; omega
        gi_wp2
        go_end0
        exact ⟨⟨_, rfl⟩, .inl ⟨[], by rw [HS.out]; rfl, h0⟩⟩
      · have HS : Hid (ckS bs = [bs]) := by show _ = _; unfold ckS; rw [if_neg (fun e => by have := HL.out; rw [e] at this; exact hl0 this.symm)]
        have t0 : (0 : Int) < (l : Int) := by omega
        have t0' : decide (0 < l) = true := by simp; omega
        have hmin : (if (l : Int) < 65535 then (l : Int) else 65535) = (l : Int) := by split <;> omega
        obtain ⟨b, o, rfl, hbB, hcc⟩ := HB.out (by rw [byteCells_length, HL.out]; omega)
        have hbx : Bytes wr.drew wr.drew.heap.size (some ⟨b, o, none⟩) bs := (show Bytes wr wr.heap.size _ _ from HB.out.more hnW)
        obtain ⟨fn, tmps, assign, body, hy, hR⟩ := HY.out [] (bs, some ⟨b, o, none⟩, l) wr.drew (HJ.out _ wr _ none h0 ⟨rfl, rfl, rfl, Nat.le_refl _, fun _ _ _ => rfl⟩ (fun r e => by cases e)) ⟨hbx, by have := HL.out; dsimp only; omega⟩ (by simp)
        simp only [pcE] at hy
        rw [HL.out] at hy
        have HR := Lib.hid hR
        have hlc : ¬ c = 0 := by omega
        clear hR hcc hbx
        gi_wp2
        gi_region
        all_goals
          gi_wp2_with fail
          refine HR.out.mono ?_
          rintro ee W3 (⟨rfl, hJ3, hk3⟩ | ⟨rfl, hJx3⟩)
          · have hno : ∀ j, ownOf B wr.drew ≠ some j := fun j e => by
              have : ownOf B wr.drew = none := HO.out
              rw [this] at e
              cases e
            have m1 := hk3.cells b1 _ (show wr.drew.heap[b1]? = _ from H1.out) rfl hB1 (hno b1)
            have m2 := hk3.cells b2 _ (show wr.drew.heap[b2]? = _ from H2.out) rfl hB2 (hno b2)
            have c1' : W3.cell? ⟨b1, 0, none⟩ = some (.slice (some ⟨b, o, none⟩) l c) := cell_of_row W3 b1 0 _ _ _ m1
            have c2' : W3.cell? ⟨b2, 0, none⟩ = some (.int .i64 65535) := cell_of_row W3 b2 0 _ _ _ m2
            have HJ3 := Lib.hid hJ3
            clear hno m1 m2 hk3 hJ3
            gi_wp2
            refine ⟨.inr ⟨_, by go_num, by omega, rfl, c1', HJ3.out⟩, ?_⟩
            simp [intOf]
          · gi_wp2
            refine bodyPost_ret (results_none rfl _ _ _) rfl ?_
            exact ⟨⟨_, rfl⟩, .inr ⟨_, trivial, hJx3⟩⟩
    · have t0 : ¬ (65535 : Int) < (l : Int) := by omega
      have HS : Hid (ckS bs = [bs]) := by show _ = _; unfold ckS; rw [if_neg (fun e => by have := HL.out; rw [e] at this; have h0 : l = 0 := this.symm; omega)]
      gi_wp2
      go_end0
      exact ⟨⟨_, rfl⟩, .inl ⟨[x], by rw [HS.out]; simp [hx], hJx'⟩⟩
end Go.Proofs.Ytnccbnadfgilaaa
