/- slices.Values of texts, as it tells them. -/
import Derived.Test.YtcfkepahilioaaaRwO
import Derived.Test.YtcfkepahilioaaaKpB
import Derived.Test.YtcfkepahilioaaaFoot
import Derived.Test.YtcfkepahilioaaaGrow
import Derived.Test.YtcfkepahilioaaaRange
import Derived.Test.YtcfkepahilioaaaLists
import Derived.Test.YtcfkepahilioaaaOpens
namespace Go.Proofs.Ytcfkepahilioaaa
open Go.RowKit Go.Shelf
attribute [local go_sem] Oper.semAt_some

def intCs (l : List Int) : List Value := l.map fun n => .int .i64 n
theorem intCs_get {ps : List Int} {i : Nat} {p : Int} (h : ps[i]? = some p) : (intCs ps)[i]? = some (.int .i64 p) := by simp [intCs, h]
theorem intCs_snoc (l : List Int) (x : Int) : intCs l ++ [.int .i64 x] = intCs (l ++ [x]) := by simp [intCs]
theorem arr_get (l : List Int) (j : Nat) (hj : j < l.length) : l.toArray[j]! = l[j] := by simp [hj]
theorem takeI_snoc {α : Type} {l : List α} {k : Nat} {x : α} (h : l[k]? = some x) : l.take (k + 1) = l.take k ++ [x] := by rw [List.take_add_one, h]; rfl
theorem intElem6 : Elem Try.prog 57 3 (.int .i64 0) 1 8 := Elem.of Try.underlying57 (by kernel_rfl) rfl (by omega)

set_option maxRecDepth 100000 in
set_option maxHeartbeats 4000000 in
theorem valsI_seq (n B b bl : Nat) (A : Option Addr) (l c : Nat) (ss : List Int) (w0 : World) (hl : ss.length = l) (hm : l ≤ 1000000) (hn : n ≤ w0.heap.size) (hB : B < w0.heap.size) (hbB : b ≠ B) (hlB : bl ≠ B)
    (hb : w0.heap[b]? = some (.cells #[.slice A l c] 57)) (hr : 0 < l → RowObj w0 A (intCs ss) bl) (hown : ∀ k, ownOf B w0 = some k → k ≠ b ∧ k ≠ bl) (hbl : 0 < l → bl < w0.heap.size) :
    SeqStopsK Fence.wide 5 Try.prog 54 #[.pointer (some ⟨b, 0, none⟩)] (fun p : Int => #[.int .i64 p]) (KpB n B) (fun xs => xs = ss) (fun pre => pre <+: ss) 1000001 w0 := by
  intro gy J Jx W hbW hJ hJx hY h0
  have HL := Lib.hid hl
  have hb1 : W.heap[b]? = some (.cells #[.slice A l c] 57) := (hbW.block b (Array.getElem?_eq_some_iff.1 hb).1).trans hb
  have HR1 : Hid (0 < l → RowObj W A (intCs ss) bl) := fun hp => (hr hp).to (fun o ho _ => (hbW.block bl (hbl hp)).trans ho)
  have HO1 : Hid (∀ k, ownOf B W = some k → k ≠ b ∧ k ≠ bl) := fun k hk => hown k (by rw [← ownOf_block (hbW.block B hB)]; exact hk)
  have hBW : B < W.heap.size := Nat.lt_of_lt_of_le hB hbW.size
  have hnW : n ≤ W.heap.size := Nat.le_trans hn hbW.size
  have HH1 := Lib.hid hb1
  have HY := Lib.hid hY
  have c0 : W.cell? ⟨b, 0, none⟩ = some (.slice A l c) := cell_of_row W b 0 _ _ _ hb1
  have hbs : b < W.heap.size := (Array.getElem?_eq_some_iff.1 hb1).1
  clear hb hr hown hl hY hbW hB hn hbl hb1
  refine callsIn_of_wp Try.func54 rfl trivial ?_ rfl
  simp only [Try.ntmps54, List.size_toArray, List.length_cons, List.length_nil, Nat.reduceAdd, Nat.reduceSub, Array.replicate_succ, Array.replicate_zero, List.push_toArray, List.append_toArray, List.nil_append, List.cons_append]
  gi_wp2
  gi_loopw [7] (fun i wr => ∃ (k : Nat), i = .int .i64 (k : Int) ∧ k ≤ l ∧ (0 < l → RowObj wr A (intCs ss) bl) ∧ (∀ q, ownOf B wr = some q → q ≠ b ∧ q ≠ bl) ∧ wr.heap[b]? = some (.cells #[.slice A l c] 57) ∧ W.heap.size ≤ wr.heap.size ∧ J (ss.take k) wr) (fun i _ => l + 1 - (intOf i).toNat)
  case atStart => exact ⟨0, rfl, Nat.zero_le _, HR1.out, HO1.out, HH1.out, Nat.le_refl _, h0⟩
  case round =>
    obtain ⟨k, rfl, hkl, hr, hown, hbx, hsz, hJs⟩ := hrel
    have HR := Lib.hid hr
    have HO := Lib.hid hown
    have HX := Lib.hid hbx
    clear hr hown hbx c0
    by_cases hk : k < l
    · obtain ⟨x, hx⟩ : ∃ x, ss[k]? = some x := ⟨_, List.getElem?_eq_getElem (by have := HL.out; omega)⟩
      obtain ⟨b', o', rfl, hb', hc'⟩ := (HR.out (by omega)).cells (by unfold intCs; rw [List.length_map]; have := HL.out; omega)
      have c1 := hc' k _ (intCs_get hx)
      have hki : (k : Int) < (l : Int) := by omega
      have hw1 : IntKind.i64.wrap ((k : Int) + 1) = (k : Int) + 1 := IntWalk.i64_in _ (by omega)
      have HPX : Hid (ss.take k ++ [x] <+: ss) := by show _ <+: _; rw [← takeI_snoc hx]; exact List.take_prefix _ _
      have HTS := Lib.hid (takeI_snoc hx)
      have hlen : (ss.take k).length < 1000001 := by rw [List.length_take]; omega
      obtain ⟨fn, tmps, assign, body, hy, hR⟩ := HY.out (ss.take k) x wr hJs hlen
      have HRR := Lib.hid hR
      have hBr : B < wr.heap.size := by omega
      clear hR hJs hc' hx
      gi_wp2
      refine HRR.out.mono ?_
      rintro ee W3 (⟨rfl, hJ3, hk3⟩ | ⟨rfl, hJx3⟩)
      · have hs3 := hk3.size
        have HR3 : Hid (0 < l → RowObj W3 (some ⟨b', o', none⟩) (intCs ss) bl) := fun hp =>
          (HR.out hp).to (fun o ho hc => hk3.cells bl o ho hc hlB (fun e => (HO.out _ e).2 rfl))
        have HX3 : Hid (W3.heap[b]? = some (.cells #[.slice (some ⟨b', o', none⟩) l c] 57)) := hk3.cells b _ HX.out rfl hbB (fun e => (HO.out _ e).1 rfl)
        have HO3 : Hid (∀ q, ownOf B W3 = some q → q ≠ b ∧ q ≠ bl) := fun q hq => by
          rcases (hk3.own q hq).1 with h1 | h1
          · exact HO.out q h1
          · have h2 := (HR.out (by omega)).lt
            constructor <;> omega
        have HJ3 := Lib.hid hJ3
        have HS3 : Hid (W.heap.size ≤ W3.heap.size) := by show _ ≤ _; omega
        clear hk3 hJ3
        gi_wp2
        refine ⟨⟨k + 1, by go_num, by omega, HR3.out, HO3.out, HX3.out, HS3.out, by rw [HTS.out]; exact HJ3.out⟩, ?_⟩
        simp [intOf]
        omega
      · gi_wp2
        refine bodyPost_ret (results_none rfl _ _ _) rfl ?_
        exact ⟨⟨_, rfl⟩, .inr ⟨ss.take k ++ [x], HPX.out, hJx3⟩⟩
    · obtain rfl : k = l := by omega
      have hTA : ss.take k = ss := by rw [List.take_of_length_le (by have := HL.out; omega)]
      rw [hTA] at hJs
      have t0 : decide ((k : Int) < (k : Int)) = false := decide_eq_false (by omega)
      gi_wp2
      go_end0
      exact ⟨⟨_, rfl⟩, .inl ⟨ss, rfl, hJs⟩⟩
end Go.Proofs.Ytcfkepahilioaaa
