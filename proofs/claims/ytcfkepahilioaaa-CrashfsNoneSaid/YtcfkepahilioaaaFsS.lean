/- member.Sort: texts by bytes, each once. -/
import Derived.Test.YtcfkepahilioaaaFsC
import Derived.Test.YtcfkepahilioaaaLay
namespace Go.Proofs.Ytcfkepahilioaaa
open Go.RowKit Go.Shelf Go.Sort Go.Lib

theorem intCs_len (l : List Int) : (intCs l).length = l.length := by unfold intCs; simp
theorem intCs_take (l : List Int) (k : Nat) : (intCs l).take k = intCs (l.take k) := by unfold intCs; rw [List.map_take]
theorem holdsI_of_own {w : World} {base g n c : Nat} {e : TypeId} {l : List Int} (h : w.ownsRow base e 1 (.slice (some ⟨g, 0, none⟩) n c) n (intCs l)) : Holds (Value.int .i64) w g 0 l.toArray := by
  obtain ⟨cur, hg, htk, _, _, _, _, hxl⟩ := ownK_row h
  intro j hj
  have hj' : j < l.length := by simpa using hj
  have hu : (intCs l)[j]? = some (.int .i64 l[j]) := intCs_get (List.getElem?_eq_getElem hj')
  have hlt : j < (intCs l).length := by rw [intCs_len]; exact hj'
  rw [arr_get _ _ hj']
  rw [← htk, List.getElem?_take_of_lt (by rw [← hxl]; exact hlt), Array.getElem?_toList] at hu
  exact ⟨by simp [World.cell?, hg, hu], by simp [World.frozen?, hg]⟩
/-- A row of the call's own, its texts set anew, and cut. -/
theorem ownI_put {w : World} {base g n n' c m : Nat} {e : TypeId} {l l' : List Int} {os : Array Obj} (h : w.ownsRow base e 1 (.slice (some ⟨g, 0, none⟩) n c) n (intCs l)) (hs : l'.length = n) (hn : n' ≤ n) :
    (grow (putRow (Value.int .i64) (Sort.ahead w m) g 0 l'.toArray) os).ownsRow base e 1 (.slice (some ⟨g, 0, none⟩) n' c) n' (intCs (l'.take n')) ∧ w.grownBy (grow (putRow (Value.int .i64) (Sort.ahead w m) g 0 l'.toArray) os) (some g) := by
  obtain ⟨cur, hg, htk, hbg, hnc, hcm, hcs, hxl⟩ := ownK_row h
  have hlt : g < w.heap.size := (Array.getElem?_eq_some_iff.1 hg).1
  have hsz : (grow (putRow (Value.int .i64) (Sort.ahead w m) g 0 l'.toArray) os).heap.size = w.heap.size + os.size := by simp [grow, putRow, mapBlock, Sort.ahead]
  have hblk : ∀ j, j < w.heap.size → (grow (putRow (Value.int .i64) (Sort.ahead w m) g 0 l'.toArray) os).heap[j]? = if g = j then (w.heap[j]?).map (onCells (putCells (Value.int .i64) 0 l'.toArray)) else w.heap[j]? := by
    intro j hj
    simp only [grow, putRow, mapBlock, Sort.ahead]
    rw [Array.getElem?_append_left (by simpa using hj), Array.getElem?_modify]
  refine ⟨ownK_of (cur := putCells (Value.int .i64) 0 l'.toArray cur) ?_ hbg (Nat.le_trans hn hnc) hcm (by simp [putCells, hcs]) ?_, ⟨rfl, rfl, rfl, by rw [hsz]; omega, fun j hj hne => ?_⟩⟩
  · rw [hblk g hlt, if_pos rfl, hg]
    rfl
  · rw [← intCs_take]
    apply List.ext_getElem?
    intro t
    by_cases ht : t < n'
    · have h1 : t < cur.size := by omega
      have h2 : t < l'.length := by omega
      rw [List.getElem?_take_of_lt (by omega), List.getElem?_take_of_lt ht, Array.getElem?_toList, putCells, Array.getElem?_mapIdx, Array.getElem?_eq_getElem h1, intCs_get (List.getElem?_eq_getElem h2)]
      simp only [Option.map_some, Nat.zero_le, Nat.zero_add, true_and, Nat.sub_zero, List.size_toArray, h2, if_true, arr_get _ _ h2]
    · rw [List.getElem?_eq_none (by rw [List.length_take]; omega), List.getElem?_eq_none (by rw [List.length_take]; omega)]
  · rw [hblk j hj, if_neg (fun e => hne (by rw [e]))]
theorem valuesI_any (A : Option Addr) (l c : Nat) (w : World) : Calls Try.prog 26 #[.slice A l c] w fun e w' => e = .returned (.func (.func 54) #[] #[.pointer (some ⟨w.heap.size, 0, none⟩)]) ∧ w.alloc (.cells #[.slice A l c] 57) = w' := by
  go_enter Try.func26, Try.ntmps26
  go_wp2
  go_ret
  exact ⟨rfl, rfl⟩
theorem collectI_any (b bl : Nat) (A : Option Addr) (l c : Nat) (ss : List Int) (w : World) (hl : ss.length = l) (hm : l ≤ 1000000) (hbx : w.heap[b]? = some (.cells #[.slice A l c] 57)) (hr : 0 < l → RowObj w A (intCs ss) bl) :
    Calls Try.prog 52 #[.func (.func 54) #[] #[.pointer (some ⟨b, 0, none⟩)]] w fun e w' => ∃ v, e = .returned v ∧ w'.ownsRow w.heap.size 3 1 v l (intCs ss) ∧ Below w.heap.size w w' := by
  have hbs := (Array.getElem?_eq_some_iff.1 hbx).1
  have HA : Hid (Calls Try.prog 78 #[.slice none 0 0, .func (.func 54) #[] #[.pointer (some ⟨b, 0, none⟩)]] w fun e w' => ∃ v, e = .returned v ∧ w'.ownsRow w.heap.size 3 1 v ss.length (intCs ss) ∧ Below w.heap.size w w') := by
    refine appendSeqI_any 54 #[.pointer (some ⟨b, 0, none⟩)] ss (by omega) w (enters_of Try.func54 (by kernel_rfl) rfl) (fun W hW hlt hown => ?_)
    have hbx' := (hW.block _ hbs).trans hbx
    by_cases hp : 0 < l
    · exact valsI_seq w.heap.size w.heap.size b bl A l c ss W hl hm hW.size hlt (by omega) (by have := (hr hp).lt; omega) hbx' (fun h => (hr h).to (fun o ho _ => (hW.block bl (hr h).lt).trans ho)) (fun k hk => by rw [hown] at hk; cases hk) (fun h => Nat.lt_of_lt_of_le (hr h).lt hW.size)
    · exact valsI_seq w.heap.size w.heap.size b (w.heap.size + 1) A l c ss W hl hm hW.size hlt (by omega) (by omega) hbx' (fun h => absurd h hp) (fun k hk => by rw [hown] at hk; cases hk) (fun h => absurd h hp)
  rw [hl] at HA
  clear hbx hr
  go_enter Try.func52, Try.ntmps52
  go_wp2_with (go_at_call 78; refine HA.out.mono ?_; rintro e w1 ⟨v, rfl, ho, hbel⟩; have HO := Lib.hid ho; have HB := Lib.hid hbel; clear ho hbel)
  go_ret
  exact ⟨v, rfl, HO.out, HB.out⟩
theorem sortedI_any (b bl : Nat) (A : Option Addr) (l c : Nat) (ss : List Int) (w : World) (hl : ss.length = l) (hm : l ≤ 1000000) (hbx : w.heap[b]? = some (.cells #[.slice A l c] 57)) (hr : 0 < l → RowObj w A (intCs ss) bl) :
    Calls Try.prog 25 #[.func (.func 54) #[] #[.pointer (some ⟨b, 0, none⟩)]] w fun e w' => ∃ v, e = .returned v ∧ w'.ownsRow w.heap.size 3 1 v l (intCs (ss.mergeSort fun x y => decide (x ≤ y))) ∧ Below w.heap.size w w' := by
  have HC := Lib.hid (collectI_any b bl A l c ss w hl hm hbx hr)
  have HL := Lib.hid hl
  clear hbx hr hl
  go_enter Try.func25, Try.ntmps25
  go_wp2_with fail
  refine HC.out.mono ?_
  rintro e w1 ⟨v, rfl, ho, hbel⟩
  have HO := Lib.hid ho
  have HB := Lib.hid hbel
  rcases ownK_form ho with ⟨rfl, h0⟩ | ⟨g, c', rfl⟩
  · have hs0 : ss = [] := List.eq_nil_of_length_eq_zero (by have := HL.out; omega)
    clear ho hbel
    go_wp2_with (go_at_call 53; refine (Try.slices_Sort_int_none _ _ _).mono ?_; rintro e w' ⟨rfl, rfl⟩)
    go_ret
    exact ⟨_, rfl, by have := HO.out; rw [hs0] at this ⊢; simpa using this, HB.out⟩
  · have hH := holdsI_of_own ho
    have hgl : g < w1.heap.size := own_lt ho g rfl
    have hgw : w.heap.size ≤ g := (ho.lt g rfl).1
    have hlw : ss.length = l := HL.out
    have HS := Lib.hid (Try.slices_Sort_int g 0 c' ss w1 hH hgl (by omega))
    rw [hlw] at HS
    clear ho hbel hH
    go_wp2_with (go_at_call 53; refine HS.out.mono ?_; rintro e w2 ⟨rfl, n, os, rfl⟩)
    go_ret
    obtain ⟨h1, h2⟩ := ownI_put (n' := l) (l' := ss.mergeSort fun x y => decide (x ≤ y)) (m := n) (os := os) HO.out (by rw [List.length_mergeSort]; exact hlw) (Nat.le_refl _)
    rw [List.take_of_length_le (by rw [List.length_mergeSort]; omega)] at h1
    exact ⟨_, rfl, h1, HB.out.grown h2 HB.out.size (fun k e => by injection e with e; omega)⟩
end Go.Proofs.Ytcfkepahilioaaa
