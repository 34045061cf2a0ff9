/- member.Sort: texts by bytes, each once. -/
import Derived.Test.YtmcblagpindncaaDoorMbC
import Derived.Test.YtmcblagpindncaaDoorLay
namespace Go.Proofs.YtmcblagpindncaaDoor
open Go.RowKit Go.Shelf Go.Sort Go.Lib

theorem text_len (l : List (List UInt8)) : (textCells l).length = l.length := by unfold textCells; simp
theorem text_take (l : List (List UInt8)) (k : Nat) : (textCells l).take k = textCells (l.take k) := by unfold textCells; rw [List.map_take]
theorem holds_of_own {w : World} {base g n c : Nat} {e : TypeId} {l : List (List UInt8)} (h : w.ownsRow base e 1 (.slice (some ⟨g, 0, none⟩) n c) n (textCells l)) : Holds encStr w g 0 l.toArray := by
  obtain ⟨cur, hg, htk, _, _, _, _, hxl⟩ := ownK_row h
  intro j hj
  have hj' : j < l.length := by simpa using hj
  have hu : (textCells l)[j]? = some (.string ⟨l[j].toArray⟩) := textCells_get (List.getElem?_eq_getElem hj')
  have hlt : j < (textCells l).length := by rw [text_len]; exact hj'
  rw [arr_get _ _ hj']
  rw [← htk, List.getElem?_take_of_lt (by rw [← hxl]; exact hlt), Array.getElem?_toList] at hu
  exact ⟨by simp [World.cell?, hg, hu], by simp [World.frozen?, hg]⟩
/-- A row of the call's own, its texts set anew, and cut. -/
theorem own_put {w : World} {base g n n' c m : Nat} {e : TypeId} {l l' : List (List UInt8)} {os : Array Obj} (h : w.ownsRow base e 1 (.slice (some ⟨g, 0, none⟩) n c) n (textCells l)) (hs : l'.length = n) (hn : n' ≤ n) :
    (grow (putRow encStr (Sort.ahead w m) g 0 l'.toArray) os).ownsRow base e 1 (.slice (some ⟨g, 0, none⟩) n' c) n' (textCells (l'.take n')) ∧ w.grownBy (grow (putRow encStr (Sort.ahead w m) g 0 l'.toArray) os) (some g) := by
  obtain ⟨cur, hg, htk, hbg, hnc, hcm, hcs, hxl⟩ := ownK_row h
  have hlt : g < w.heap.size := (Array.getElem?_eq_some_iff.1 hg).1
  have hsz : (grow (putRow encStr (Sort.ahead w m) g 0 l'.toArray) os).heap.size = w.heap.size + os.size := by simp [grow, putRow, mapBlock, Sort.ahead]
  have hblk : ∀ j, j < w.heap.size → (grow (putRow encStr (Sort.ahead w m) g 0 l'.toArray) os).heap[j]? = if g = j then (w.heap[j]?).map (onCells (putCells encStr 0 l'.toArray)) else w.heap[j]? := by
    intro j hj
    simp only [grow, putRow, mapBlock, Sort.ahead]
    rw [Array.getElem?_append_left (by simpa using hj), Array.getElem?_modify]
  refine ⟨ownK_of (cur := putCells encStr 0 l'.toArray cur) ?_ hbg (Nat.le_trans hn hnc) hcm (by simp [putCells, hcs]) ?_, ⟨rfl, rfl, rfl, by rw [hsz]; omega, fun j hj hne => ?_⟩⟩
  · rw [hblk g hlt, if_pos rfl, hg]
    rfl
  · rw [← text_take]
    apply List.ext_getElem?
    intro t
    by_cases ht : t < n'
    · have h1 : t < cur.size := by omega
      have h2 : t < l'.length := by omega
      rw [List.getElem?_take_of_lt (by omega), List.getElem?_take_of_lt ht, Array.getElem?_toList, putCells, Array.getElem?_mapIdx, Array.getElem?_eq_getElem h1, textCells_get (List.getElem?_eq_getElem h2)]
      simp only [Option.map_some, Nat.zero_le, Nat.zero_add, true_and, Nat.sub_zero, List.size_toArray, h2, if_true, arr_get _ _ h2]
    · rw [List.getElem?_eq_none (by rw [List.length_take]; omega), List.getElem?_eq_none (by rw [List.length_take]; omega)]
  · rw [hblk j hj, if_neg (fun e => hne (by rw [e]))]
theorem valuesT_any (A : Option Addr) (l c : Nat) (w : World) : Calls Tryd.prog 30 #[.slice A l c] w fun e w' => e = .returned (.func (.func 42) #[] #[.pointer (some ⟨w.heap.size, 0, none⟩)]) ∧ w.alloc (.cells #[.slice A l c] 24) = w' := by
  go_enter Tryd.func30, Tryd.ntmps30
  go_wp2
  go_ret
  exact ⟨rfl, rfl⟩
theorem collectT_any (b bl : Nat) (A : Option Addr) (l c : Nat) (ss : List (List UInt8)) (w : World) (hl : ss.length = l) (hm : l ≤ 1000000) (hbx : w.heap[b]? = some (.cells #[.slice A l c] 24)) (hr : 0 < l → RowObj w A (textCells ss) bl) :
    Calls Tryd.prog 40 #[.func (.func 42) #[] #[.pointer (some ⟨b, 0, none⟩)]] w fun e w' => ∃ v, e = .returned v ∧ w'.ownsRow w.heap.size 9 1 v l (textCells ss) ∧ Below w.heap.size w w' := by
  have hbs := (Array.getElem?_eq_some_iff.1 hbx).1
  have HA : Hid (Calls Tryd.prog 50 #[.slice none 0 0, .func (.func 42) #[] #[.pointer (some ⟨b, 0, none⟩)]] w fun e w' => ∃ v, e = .returned v ∧ w'.ownsRow w.heap.size 9 1 v ss.length (textCells ss) ∧ Below w.heap.size w w') := by
    refine appendSeqT_any 42 #[.pointer (some ⟨b, 0, none⟩)] ss (by omega) w (enters_of Tryd.func42 (by kernel_rfl) rfl) (fun W hW hlt hown => ?_)
    have hbx' := (hW.block _ hbs).trans hbx
    by_cases hp : 0 < l
    · exact valsT_seq w.heap.size w.heap.size b bl A l c ss W hl hm hW.size hlt (by omega) (by have := (hr hp).lt; omega) hbx' (fun h => (hr h).to (fun o ho _ => (hW.block bl (hr h).lt).trans ho)) (fun k hk => by rw [hown] at hk; cases hk) (fun h => Nat.lt_of_lt_of_le (hr h).lt hW.size)
    · exact valsT_seq w.heap.size w.heap.size b (w.heap.size + 1) A l c ss W hl hm hW.size hlt (by omega) (by omega) hbx' (fun h => absurd h hp) (fun k hk => by rw [hown] at hk; cases hk) (fun h => absurd h hp)
  rw [hl] at HA
  clear hbx hr
  go_enter Tryd.func40, Tryd.ntmps40
  go_wp2_with (go_at_call 50; refine HA.out.mono ?_; rintro e w1 ⟨v, rfl, ho, hbel⟩; have HO := Lib.hid ho; have HB := Lib.hid hbel; clear ho hbel)
  go_ret
  exact ⟨v, rfl, HO.out, HB.out⟩
theorem sortedT_any (b bl : Nat) (A : Option Addr) (l c : Nat) (ss : List (List UInt8)) (w : World) (hl : ss.length = l) (hm : l ≤ 1000000) (hbx : w.heap[b]? = some (.cells #[.slice A l c] 24)) (hr : 0 < l → RowObj w A (textCells ss) bl) :
    Calls Tryd.prog 29 #[.func (.func 42) #[] #[.pointer (some ⟨b, 0, none⟩)]] w fun e w' => ∃ v, e = .returned v ∧ w'.ownsRow w.heap.size 9 1 v l (textCells (ss.mergeSort fun x y => decide (x ≤ y))) ∧ Below w.heap.size w w' := by
  have HC := Lib.hid (collectT_any b bl A l c ss w hl hm hbx hr)
  have HL := Lib.hid hl
  clear hbx hr hl
  go_enter Tryd.func29, Tryd.ntmps29
  go_wp2_with fail
  refine HC.out.mono ?_
  rintro e w1 ⟨v, rfl, ho, hbel⟩
  have HO := Lib.hid ho
  have HB := Lib.hid hbel
  rcases ownK_form ho with ⟨rfl, h0⟩ | ⟨g, c', rfl⟩
  · have hs0 : ss = [] := List.eq_nil_of_length_eq_zero (by have := HL.out; omega)
    clear ho hbel
    go_wp2_with (go_at_call 41; refine (Tryd.slices_Sort_string_none _ _ _).mono ?_; rintro e w' ⟨rfl, rfl⟩)
    go_ret
    exact ⟨_, rfl, by have := HO.out; rw [hs0] at this ⊢; simpa using this, HB.out⟩
  · have hH := holds_of_own ho
    have hgl : g < w1.heap.size := own_lt ho g rfl
    have hgw : w.heap.size ≤ g := (ho.lt g rfl).1
    have hlw : ss.length = l := HL.out
    have HS := Lib.hid (Tryd.slices_Sort_string g 0 c' ss w1 hH hgl (by omega))
    rw [hlw] at HS
    clear ho hbel hH
    go_wp2_with (go_at_call 41; refine HS.out.mono ?_; rintro e w2 ⟨rfl, n, os, rfl⟩)
    go_ret
    obtain ⟨h1, h2⟩ := own_put (n' := l) (l' := ss.mergeSort fun x y => decide (x ≤ y)) (m := n) (os := os) HO.out (by rw [List.length_mergeSort]; exact hlw) (Nat.le_refl _)
    rw [List.take_of_length_le (by rw [List.length_mergeSort]; omega)] at h1
    exact ⟨_, rfl, h1, HB.out.grown h2 HB.out.size (fun k e => by injection e with e; omega)⟩
theorem sortM_any (A : Option Addr) (l c : Nat) (ss : List (List UInt8)) (B : Nat) (w : World) (hl : ss.length = l) (hm : l ≤ 1000000) (hb : Cells w B A (textCells ss)) (_hB : B ≤ w.heap.size) :
    Calls Tryd.prog 20 #[.slice A l c] w fun e w' => ∃ A' c', e = .returned (.slice A' (sortB ss).length c') ∧ w'.ownsRow w.heap.size 9 1 (.slice A' (sortB ss).length c') (sortB ss).length (textCells (sortB ss)) ∧ Below w.heap.size w w' := by
  have HV := Lib.hid (valuesT_any A l c w)
  obtain ⟨bl, hbl⟩ : ∃ bl, 0 < l → RowObj w A (textCells ss) bl := by
    by_cases hp : 0 < l
    · obtain ⟨bl, h1, _⟩ := rowObj_of hb (by rw [text_len]; omega)
      exact ⟨bl, fun _ => h1⟩
    · exact ⟨0, fun h => absurd h hp⟩
  have hb1 : Below w.heap.size w (w.alloc (.cells #[.slice A l c] 24)) := (Below.refl _ w).alloc (Nat.le_refl _) _
  have HS := Lib.hid (sortedT_any w.heap.size bl A l c ss (w.alloc (.cells #[.slice A l c] 24)) hl hm (heap_alloc_new w _) (fun h => (hbl h).to (fun o ho _ => (hb1.block bl (hbl h).lt).trans ho)))
  have HL := Lib.hid hl
  have HB1 := Lib.hid hb1
  clear hb hbl hb1 hl
  go_enter Tryd.func20, Tryd.ntmps20
  go_wp2_with fail
  refine HV.out.mono ?_
  rintro e w1 ⟨rfl, rfl⟩
  go_wp2_with fail
  refine HS.out.mono ?_
  rintro e w2 ⟨v, rfl, ho, hbel⟩
  have HO := Lib.hid ho
  have HB2 := Lib.hid (HB1.out.trans (hbel.mono HB1.out.size))
  have hzz : w.heap.size + 1 = (w.alloc (.cells #[.slice A l c] 24)).heap.size := by simp
  rcases ownK_form ho with ⟨rfl, h0⟩ | ⟨g, c', rfl⟩
  · have hs0 : ss = [] := List.eq_nil_of_length_eq_zero (by have := HL.out; omega)
    clear ho hbel
    go_wp2_with (go_at_call 28; refine (Tryd.slices_Compact_string_empty _ _ _).mono ?_; rintro e w' ⟨rfl, rfl⟩)
    go_ret
    subst hs0
    exact ⟨none, 0, rfl, World.ownsRow_nil _ _ _ _, HB2.out⟩
  · obtain ⟨zs, hzs⟩ : ∃ zs, (ss.mergeSort fun x y => decide (x ≤ y)) = zs := ⟨_, rfl⟩
    have hc := compact_sort ss
    rw [hzs] at HO hc
    have hzl : zs.length = l := by rw [← hzs, List.length_mergeSort]; exact HL.out
    obtain ⟨cur, _, _, hgw, hnc, hcm, _⟩ := ownK_row HO.out
    have hH := holds_of_own HO.out
    have hle : (Lib.compact zs).length ≤ zs.length := by unfold Lib.compact compactUpTo; rw [List.length_map]; exact Nat.le_trans (List.length_filter_le _ _) (by simp)
    have HS2 := Lib.hid (Tryd.slices_Compact_string g 0 c' zs w2 hH (by omega) (by omega))
    rw [hzl, hc] at HS2
    rw [hc] at hle
    clear ho hbel hH
    go_wp2_with (go_at_call 28; refine HS2.out.mono ?_; rintro e w3 ⟨rfl, q, rfl⟩)
    go_ret
    obtain ⟨h1, h2⟩ := own_put (n' := (sortB ss).length) (l' := sortB ss ++ List.replicate (l - (sortB ss).length) []) (m := q) (os := #[]) HO.out (by rw [List.length_append, List.length_replicate]; omega) (by omega)
    rw [List.take_left, grow_empty] at h1
    rw [grow_empty] at h2
    refine ⟨_, _, rfl, ?_, HB2.out.grown h2 HB2.out.size (fun k e => by injection e with e; omega)⟩
    refine ⟨h1.1, ?_⟩
    rcases h1.2 with h | ⟨g', cap, cur', r1, r2, r3⟩
    · exact .inl h
    · exact .inr ⟨g', cap, cur', r1, by omega, r3⟩
end Go.Proofs.YtmcblagpindncaaDoor
