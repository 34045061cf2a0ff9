/- The library's SplitSeq at bytes 47: its iterator tells the parts of a text, one by one. -/
import Derived.Test.YtfnkbpcimbldbaaDoorRange
import Derived.Test.YtfnkbpcimbldbaaDoorStrIndex
import Derived.Test.YtfnkbpcimbldbaaDoorParts
import Derived.Lib.Hide
import Derived.Below
namespace Go.Proofs.YtfnkbpcimbldbaaDoor
open Go.RowKit Go.Shelf
attribute [local go_sem] Oper.semAt_some

theorem extract_take (s : ByteArray) (i : Nat) : s.extract 0 i = ⟨(s.data.toList.take i).toArray⟩ := by
  apply ByteArray.ext
  rw [ByteArray.data_extract]
  apply Array.toList_inj.1
  simp
theorem extract_drop (s : ByteArray) (i : Nat) : s.extract i s.size = ⟨(s.data.toList.drop i).toArray⟩ := by
  apply ByteArray.ext
  rw [ByteArray.data_extract]
  apply Array.toList_inj.1
  simp
  exact List.take_of_length_le (by rw [List.length_drop, Array.length_toList]; exact Nat.le_refl _)

/-- What the blocks of T hold stays. -/
def KeepT (T : Nat → Prop) (W W' : World) : Prop := ∀ k, T k → W'.heap[k]? = W.heap[k]?
theorem KeepT.trans {T : Nat → Prop} {A B C : World} (h : KeepT T A B) (k : KeepT T B C) : KeepT T A C := fun j hj => (k j hj).trans (h j hj)
theorem KeepT.putObj {T : Nat → Prop} {n : Nat} (hT : ∀ k, T k → k < n) (W : World) (l : Nat) (o' : Obj) (hl : n ≤ l) : KeepT T W (W.putObj l o') := fun k hk => World.putObj_heap_other (by have := hT k hk; omega)
/-- How long the text in a cell is. -/
def strLen (w : World) (b : Nat) : Nat := match w.cell? ⟨b, 0, none⟩ with
  | some (.string s) => s.size
  | _ => 0
theorem strLen_of {w : World} {b : Nat} {s : ByteArray} (h : w.cell? ⟨b, 0, none⟩ = some (.string s)) : strLen w b = s.size := by unfold strLen; rw [h]
/-- Three blocks. -/
def T3 (a b c : Nat) : Nat → Prop := fun k => k = a ∨ k = b ∨ k = c

theorem txt (l : List UInt8) : (⟨l.toArray⟩ : ByteArray).data.toList = l := rfl
theorem txt_size (l : List UInt8) : (⟨l.toArray⟩ : ByteArray).size = l.length := by show l.toArray.size = _; simp

set_option maxRecDepth 100000 in
set_option maxHeartbeats 2000000 in
theorem split_in (F : Fence) (n : Nat) (h57 : F.fn 49) (f59 : F.fn 51) (h59 : ∀ (s : ByteArray) (w : World), CallsIn F (n - 1) Tryd.prog 51 #[.string s, .string ⟨#[47]⟩] w fun e w' => e = .returned (.int .i64 (Lib.indexByte s.data.toList 47)) ∧ w' = w) (hro : F.round = none) (hn : 1 ≤ n)
    (l bp bs bv : Nat) (t : List UInt8) (hps : bp ≠ bs) (hvs : bv ≠ bs) (J Jx : List (List UInt8) → World → Prop)
    (hJ : ∀ pre W v, J pre W → J pre (W.setCell ⟨bs, 0, none⟩ v)) (hm : t.length ≤ 1099511627776)
    (hY : ∀ pre x W, J pre W → pre.length < (partsS t).length → YieldAt F (n - 1) Tryd.prog l #[.string ⟨x.toArray⟩] W fun e W' =>
      (e = .returned (.bool true) ∧ J (pre ++ [x]) W' ∧ KeepT (T3 bp bs bv) W W') ∨ (e = .returned (.bool false) ∧ Jx (pre ++ [x]) W'))
    (W : World) (hp : W.heap[bp]? = some (.cells #[.string ⟨#[47]⟩] 9)) (hs : W.heap[bs]? = some (.cells #[.string ⟨t.toArray⟩] 9)) (hv : W.heap[bv]? = some (.cells #[.int .i64 0] 3)) (h0 : J [] W) :
    CallsIn F n Tryd.prog 49 #[.func (.yield l) #[] #[], .pointer (some ⟨bp, 0, none⟩), .pointer (some ⟨bs, 0, none⟩), .pointer (some ⟨bv, 0, none⟩)] W fun e W' => (∃ v, e = .returned v) ∧
      ((∃ ys, ys = partsS t ∧ J ys W') ∨ (∃ pre, pre <+: partsS t ∧ Jx pre W')) := by
  have hp0 : W.cell? ⟨bp, 0, none⟩ = some (.string ⟨#[47]⟩) := cell_of_row W bp 0 _ _ _ hp
  refine callsIn_of_wp Tryd.func49 rfl h57 ?_ hro
  simp only [Tryd.ntmps49, List.size_toArray, List.length_cons, List.length_nil, Nat.reduceAdd, Nat.reduceSub, Array.replicate_succ, Array.replicate_zero, List.push_toArray, List.append_toArray, List.nil_append, List.cons_append]
  gi_wp2
  clear hp0
  gi_loopw [7] (fun _ wr => ∃ (pre : List (List UInt8)) (r : List UInt8), partsS t = pre ++ partsS r ∧ r.length ≤ t.length ∧ wr.heap[bp]? = some (.cells #[.string ⟨#[47]⟩] 9) ∧ wr.heap[bs]? = some (.cells #[.string ⟨r.toArray⟩] 9) ∧ wr.heap[bv]? = some (.cells #[.int .i64 0] 3) ∧ J pre wr) (fun _ wr => strLen wr bs)
  case atStart => exact ⟨[], t, rfl, Nat.le_refl _, hp, hs, hv, h0⟩
  case round =>
    clear hp hs hv h0
    obtain ⟨pre, r, hx, hl, hp, hs, hv, hJs⟩ := hrel
    have cp : wr.cell? ⟨bp, 0, none⟩ = some (.string ⟨#[47]⟩) := cell_of_row wr bp 0 _ _ _ hp
    have cs : wr.cell? ⟨bs, 0, none⟩ = some (.string ⟨r.toArray⟩) := cell_of_row wr bs 0 _ _ _ hs
    have cv : wr.cell? ⟨bv, 0, none⟩ = some (.int .i64 0) := cell_of_row wr bv 0 _ _ _ hv
    have HX := Lib.hid hx
    have hsz : (⟨r.toArray⟩ : ByteArray).size = r.length := txt_size r
    have HIX := Lib.hid ((h59 ⟨r.toArray⟩ wr).mono (R' := fun e w' => e = .returned (.int .i64 (Lib.indexByte r 47)) ∧ wr = w') (fun _ _ h => ⟨h.1, h.2.symm⟩))
    have hlen : pre.length < (partsS t).length := by
      have := partsL_ne r
      have h2 := List.length_pos_iff.2 this
      rw [HX.out, List.length_append]
      omega
    clear hx
    by_cases hneg : Lib.indexByte r 47 < 0
    · have HPN := Lib.hid (parts_none hneg)
      obtain ⟨fn, tmps, assign, body, hy, hR⟩ := hY pre r wr hJs hlen
      have HR := Lib.hid hR
      clear hR hY
      generalize hix : Lib.indexByte r 47 = ix at *
      clear hix
      gi_wp2_with (gi_at_call 51; refine HIX.out.mono ?_; rintro e w' ⟨rfl, rfl⟩)
      refine HR.out.mono ?_
      rintro e W3 (⟨rfl, hJ3, hk3⟩ | ⟨rfl, hJx3⟩)
      · gi_wp2
        go_end0
        exact ⟨⟨_, rfl⟩, .inl ⟨pre ++ [r], by rw [HX.out, HPN.out], hJ3⟩⟩
      · gi_wp2
        go_end0
        exact ⟨⟨_, rfl⟩, .inr ⟨pre ++ [r], by rw [HX.out, HPN.out]; exact List.prefix_refl _, hJx3⟩⟩
    · obtain ⟨k, hk⟩ := Int.eq_ofNat_of_zero_le (show 0 ≤ Lib.indexByte r 47 by omega)
      obtain ⟨hkl, hpk⟩ := parts_some hk
      have HPK := Lib.hid hpk
      rw [hk] at HIX
      obtain ⟨fn, tmps, assign, body, hy, hR⟩ := hY pre (r.take k) wr hJs hlen
      have HR := Lib.hid hR
      have he : (⟨(r.take k).toArray⟩ : ByteArray) = (⟨r.toArray⟩ : ByteArray).extract 0 k := by rw [extract_take]
      rw [he] at hy
      have hks : (k : Int) ≤ ((⟨r.toArray⟩ : ByteArray).size : Int) := by rw [hsz]; omega
      have hks1 : (k : Int) + 1 ≤ ((⟨r.toArray⟩ : ByteArray).size : Int) := by rw [hsz]; omega
      have hkn : k ≤ r.length := by omega
      have hkn1 : k + 1 ≤ r.length := by omega
      clear hR hY he hneg hk hpk
      gi_wp2_with (gi_at_call 51; refine HIX.out.mono ?_; rintro e w' ⟨rfl, rfl⟩)
      refine HR.out.mono ?_
      rintro e W3 (⟨rfl, hJ3, hk3⟩ | ⟨rfl, hJx3⟩)
      · have hp3 := (hk3 bp (.inl rfl)).trans hp
        have hs3 := (hk3 bs (.inr (.inl rfl))).trans hs
        have hv3 := (hk3 bv (.inr (.inr rfl))).trans hv
        have cp3 : W3.cell? ⟨bp, 0, none⟩ = some (.string ⟨#[47]⟩) := cell_of_row W3 bp 0 _ _ _ hp3
        have cs3 : W3.cell? ⟨bs, 0, none⟩ = some (.string ⟨r.toArray⟩) := cell_of_row W3 bs 0 _ _ _ hs3
        have cv3 : W3.cell? ⟨bv, 0, none⟩ = some (.int .i64 0) := cell_of_row W3 bv 0 _ _ _ hv3
        have cf3 := frozen_of_row W3 bs 0 _ _ hs3
        have hex : (⟨r.toArray⟩ : ByteArray).extract (k + 1) r.length = ⟨(r.drop (k + 1)).toArray⟩ := by
          have h := extract_drop ⟨r.toArray⟩ (k + 1)
          rw [txt_size] at h
          exact h
        have HEX := Lib.hid hex
        clear hex
        have HC3 := Lib.hid (strLen_of (b := bs) cs3)
        have HCR := Lib.hid (strLen_of (b := bs) cs)
        gi_wp2
        rw [HEX.out]
        have hb3 : (W3.setCell ⟨bs, 0, none⟩ (.string ⟨(r.drop (k + 1)).toArray⟩)).heap[bs]? = some (.cells #[.string ⟨(r.drop (k + 1)).toArray⟩] 9) := heap_setCell_same W3 bs 0 _ _ _ hs3
        refine ⟨⟨pre ++ [r.take k], r.drop (k + 1), by rw [HX.out, HPK.out]; simp, by rw [List.length_drop]; omega, (Below.heap_setCell W3 _ _ bp (fun e => hps (by simpa using e))).trans hp3, hb3, (Below.heap_setCell W3 _ _ bv (fun e => hvs (by simpa using e))).trans hv3, hJ _ _ _ hJ3⟩, ?_⟩
        rw [strLen_of (cell_of_row _ bs 0 _ _ _ hb3), HCR.out, txt_size, txt_size, List.length_drop]
        omega
      · gi_wp2
        refine bodyPost_ret (results_none rfl _ _ _) rfl ?_
        exact ⟨⟨_, rfl⟩, .inr ⟨pre ++ [r.take k], by rw [HX.out, HPK.out]; exact ⟨partsS (r.drop (k + 1)), by simp⟩, hJx3⟩⟩
end Go.Proofs.YtfnkbpcimbldbaaDoor
