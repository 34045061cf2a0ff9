/- Layer 33: the line of any step and any answer. -/
import Derived.Test.YtkgkefifcpneiaaDoorReCt
import Derived.Deep.CutRange
import Derived.Lib.Join
namespace Go.Proofs.YtkgkefifcpneiaaDoor
open Go.RowKit

def strV (s : ByteArray) : Value := .string s
/-- The line's words. -/
def front (p : Pr) : List ByteArray := if rightB p.name.data.toList then [wordS p.kind, p.name] else [wordS p.kind]
def front2 (p : Pr) : List ByteArray := if rightB p.name.data.toList then [wordS p.kind, p.name ++ ⟨#[58]⟩] else [wordS p.kind ++ ⟨#[58]⟩]
def lineW (p : Pr) : List ByteArray := front2 p ++ [codeS p.e] ++ (if cntS p = ⟨#[]⟩ then [] else [cntS p]) ++ (if p.rf then [⟨#[114, 101, 102, 117, 115, 101, 100]⟩] else []) ++ (if p.po then [⟨#[112, 111, 105, 115, 111, 110, 101, 100]⟩] else [])
def lineS (p : Pr) : ByteArray := ⟨(Lib.join ((lineW p).map (·.data.toList)) [32]).toArray⟩
theorem pick_size {l : List ByteArray} {o : ByteArray} {m : Nat} (hl : ∀ x ∈ l, x.size ≤ m) (ho : o.size ≤ m) (i : Int) : (pickS l i o).size ≤ m := by
  unfold pickS
  split
  · exact ho
  · cases hx : l[i.toNat]? with
    | none => exact ho
    | some x => exact hl x (List.mem_of_getElem? hx)
theorem word_size (k : Int) : (wordS k).size ≤ 10 := pick_size (by decide) (by decide) _
theorem code_size (k : Int) : (codeS k).size ≤ 10 := pick_size (by decide) (by decide) _
theorem cnt_size {p : Pr} (h : p.full) : (cntS p).size ≤ 30 := by
  obtain ⟨hdl, sz, na, nl, nc, fa, fl, fc, h2, h3, h4, h5, h6, h7, h8⟩ := h
  unfold cntS
  cases hc : cntN p with
  | none => show (⟨#[]⟩ : ByteArray).size ≤ 30; decide
  | some q =>
    obtain ⟨n, x⟩ := q
    have hn : -9223372036854775808 ≤ n ∧ n ≤ 9223372036854775807 := by
      unfold cntN at hc
      rw [h2, h3, h4] at hc
      simp only [szOf, lenOf] at hc
      split at hc
      · cases hc
      · split at hc
        · cases hc; omega
        · split at hc
          · cases hc; omega
          · split at hc
            · cases hc; omega
            · split at hc
              · cases hc; omega
              · cases hc
    have := itoa33_len hn.1 hn.2
    show ((⟨(Lib.itoa n).toArray⟩ : ByteArray) ++ ⟨#[x]⟩).size ≤ 30
    rw [ByteArray.size_append]
    show (Lib.itoa n).length + 1 ≤ 30
    omega
theorem join_le (ls : List (List UInt8)) (h : ∀ x ∈ ls, x.length ≤ 400) : (Lib.join ls [32]).length ≤ 401 * ls.length := by
  cases ls with
  | nil => rw [Lib.join_nil]; simp
  | cons x r =>
    rw [Lib.join_length]
    have : ∀ l : List (List UInt8), (∀ x ∈ l, x.length ≤ 400) → Lib.lens l ≤ 400 * l.length := by
      intro l
      induction l with
      | nil => intro _; simp [Lib.lens]
      | cons y l ih =>
        intro hl
        have h1 := ih (fun z hz => hl z (by simp [hz]))
        have h2 := hl y (by simp)
        rw [List.length_cons]
        have : Lib.lens (y :: l) = y.length + Lib.lens l := by simp [Lib.lens]
        omega
    have := this (x :: r) h
    rw [List.length_cons] at *
    simp only [List.length_cons, List.length_nil] at *
    omega
theorem lineW_sizes {p : Pr} (hf : p.full) (hn : p.name.size ≤ 300) : ∀ x ∈ lineW p, x.size ≤ 400 := fun x hx => by
  have hw := word_size p.kind
  have hc := code_size p.e
  have hk := cnt_size hf
  unfold lineW front2 at hx
  simp only [List.mem_append] at hx
  rcases hx with (((hx | hx) | hx) | hx) | hx
  · split at hx
    · simp only [List.mem_cons, List.not_mem_nil, or_false] at hx
      rcases hx with rfl | rfl
      · omega
      · rw [ByteArray.size_append]; show _ + 1 ≤ _; omega
    · simp only [List.mem_cons, List.not_mem_nil, or_false] at hx
      subst hx
      rw [ByteArray.size_append]; show _ + 1 ≤ _; omega
  · simp only [List.mem_cons, List.not_mem_nil, or_false] at hx
    subst hx; omega
  · split at hx
    · cases hx
    · simp only [List.mem_cons, List.not_mem_nil, or_false] at hx
      subst hx; omega
  · split at hx
    · simp only [List.mem_cons, List.not_mem_nil, or_false] at hx
      subst hx; decide
    · cases hx
  · split at hx
    · simp only [List.mem_cons, List.not_mem_nil, or_false] at hx
      subst hx; decide
    · cases hx
theorem lineW_pos (p : Pr) : 0 < (lineW p).length := by
  unfold lineW
  simp only [List.length_append, List.length_cons, List.length_nil]
  omega
theorem lineW_len (p : Pr) : (lineW p).length ≤ 6 := by
  unfold lineW front2
  simp only [List.length_append]
  split <;> split <;> split <;> split <;> simp
/-- Within Line: the words so far, and the boxes of the step and its answer. -/
structure LnW (w3 : World) (n : Nat) (p : Pr) (v : Value) (ss : List ByteArray) (W : World) : Prop where
  low : Below w3.heap.size w3 W
  own : W.ownsRow w3.heap.size 9 1 v ss.length (ss.map strV)
  op : W.heap[n]? = some (.cells #[.int .i64 p.kind, .string p.name, p.o2, p.o3, p.o4, p.o5, p.o6] 36 (0, 0))
  an : W.heap[n + 1]? = some (.cells #[.int .i64 p.e, .slice p.ad p.dl p.dc, p.a2, p.a3, p.a4, .bool p.rf, .bool p.po] 47 (0, 0))
  room : n + 2 ≤ w3.heap.size
section
variable {w3 W W1 : World} {n : Nat} {p : Pr} {v v1 : Value} {ss : List ByteArray}
theorem LnW.base (h : LnW w3 n p v ss W) : ∀ j, v.ownBlock = some j → w3.heap.size ≤ j := fun j hj => by
  rcases ownK_form h.own with ⟨he, _⟩ | ⟨g, c', he⟩
  · rw [he] at hj; cases hj
  · have hr := h.own
    rw [he] at hr hj
    obtain ⟨_, _, _, hb, _⟩ := ownK_row hr
    obtain rfl : g = j := by injection hj
    exact hb
theorem LnW.form (h : LnW w3 n p v ss W) (hk : 0 < ss.length) : ∃ g c, v = .slice (some ⟨g, 0, none⟩) ss.length c ∧ w3.heap.size ≤ g ∧ g < W.heap.size ∧ ss.length ≤ c := by
  rcases ownK_form h.own with ⟨_, he⟩ | ⟨g, c', he⟩
  · omega
  · have hr := h.own
    rw [he] at hr
    obtain ⟨cur, hg, _, hb, hn, _⟩ := ownK_row hr
    exact ⟨g, c', he, hb, (Array.getElem?_eq_some_iff.1 hg).1, hn⟩
theorem LnW.below (h : LnW w3 n p v ss W) (hb : Below W.heap.size W W1) : LnW w3 n p v ss W1 :=
  have hz := h.low.size
  have hr := h.room
  ⟨h.low.trans (hb.mono h.low.size), own_keep h.own (Mod.of_below hb) (fun _ _ hh => hh), (hb.block n (by omega)).trans h.op, (hb.block (n + 1) (by omega)).trans h.an, h.room⟩
theorem LnW.app (h : LnW w3 n p v ss W) (s : ByteArray) (hA : App W w3.heap.size 9 1 v (ss.length + 1) (ss.map strV ++ [strV s]) W1 v1) : LnW w3 n p v1 (ss ++ [s]) W1 :=
  have hr := h.room
  have hb := hA.below (Below.refl w3.heap.size W) h.low.size h.base
  ⟨h.low.trans hb, by rw [List.length_append, List.map_append]; exact hA.own, (hb.block n (by omega)).trans h.op, (hb.block (n + 1) (by omega)).trans h.an, h.room⟩
theorem LnW.set {g c : Nat} (h : LnW w3 n p (.slice (some ⟨g, 0, none⟩) ss.length c) ss W) (j : Nat) (s : ByteArray) : LnW w3 n p (.slice (some ⟨g, 0, none⟩) ss.length c) (ss.set j s) (W.setCell ⟨g, j, none⟩ (strV s)) :=
  have hr := h.room
  have hg : w3.heap.size ≤ g := h.base g rfl
  have hb : Below w3.heap.size W (W.setCell ⟨g, j, none⟩ (strV s)) := (Below.refl _ W).setCell (by show w3.heap.size ≤ g; exact hg) _
  ⟨h.low.trans hb, by rw [List.length_set, List.map_set]; exact own_setK33 h.own, (hb.block n (by omega)).trans h.op, (hb.block (n + 1) (by omega)).trans h.an, h.room⟩
theorem LnW.first {W2 : World} (hz : W2.heap.size = n + 2) (ho : W2.heap[n]? = some (.cells #[.int .i64 p.kind, .string p.name, p.o2, p.o3, p.o4, p.o5, p.o6] 36 (0, 0))) (ha : W2.heap[n + 1]? = some (.cells #[.int .i64 p.e, .slice p.ad p.dl p.dc, p.a2, p.a3, p.a4, .bool p.rf, .bool p.po] 47 (0, 0))) (hb : Below W2.heap.size W2 w3) (s : ByteArray) :
    LnW w3 n p (.slice (some ⟨w3.heap.size, 0, none⟩) 1 1) [s] (w3.alloc (.cells #[.string s] 9)) := by
  have h3 := hb.size
  have hb2 : Below W2.heap.size W2 (w3.alloc (.cells #[.string s] 9)) := hb.alloc h3 _
  exact ⟨(Below.refl _ w3).alloc (Nat.le_refl _) _, own33_new w3 s, (hb2.block n (by omega)).trans ho, (hb2.block (n + 1) (by omega)).trans ha, by omega⟩
theorem LnW.cell {g c : Nat} (h : LnW w3 n p (.slice (some ⟨g, 0, none⟩) ss.length c) ss W) {j : Nat} {s : ByteArray} (hj : ss[j]? = some s) : W.cell? ⟨g, j, none⟩ = some (.string s) := by
  obtain ⟨cur, hg, htk, _, _, _, _, hxl⟩ := ownK_row h.own
  have := seg_cells hg 0 (ss.map strV) (by rw [List.drop_zero, hxl]; exact htk) j (.string s) (by rw [List.getElem?_map, hj]; rfl)
  rwa [Addr.add_lit, Nat.zero_add] at this
end
set_option maxRecDepth 100000 in
set_option maxHeartbeats 4000000 in
theorem line33_any (p : Pr) (w : World) (hf : p.full) (hn : p.name.size ≤ 300) (hk : -9223372036854775808 ≤ p.kind ∧ p.kind ≤ 9223372036854775807) (ht : Tab10 w) :
    Calls Tryd.prog 16 #[.agg #[.int .i64 p.kind, .string p.name, p.o2, p.o3, p.o4, p.o5, p.o6], .agg #[.int .i64 p.e, .slice p.ad p.dl p.dc, p.a2, p.a3, p.a4, .bool p.rf, .bool p.po]] w fun e w' => e = .returned (.string (lineS p)) ∧ Below w.heap.size w w' := by
  obtain ⟨W2, hW2⟩ : ∃ W2, (w.alloc (.cells #[.int .i64 p.kind, .string p.name, p.o2, p.o3, p.o4, p.o5, p.o6] 36)).alloc (.cells #[.int .i64 p.e, .slice p.ad p.dl p.dc, p.a2, p.a3, p.a4, .bool p.rf, .bool p.po] 47) = W2 := ⟨_, rfl⟩
  have HB : Hid (Below w.heap.size w W2) := by
    show Below _ _ _
    rw [← hW2]
    exact ((Below.refl _ w).alloc (Nat.le_refl _) _).alloc (by simp) _
  have hz2 : W2.heap.size = w.heap.size + 2 := by rw [← hW2]; simp
  have HO : Hid (W2.heap[w.heap.size]? = some (.cells #[.int .i64 p.kind, .string p.name, p.o2, p.o3, p.o4, p.o5, p.o6] 36 (0, 0)) ∧ W2.heap[w.heap.size + 1]? = some (.cells #[.int .i64 p.e, .slice p.ad p.dl p.dc, p.a2, p.a3, p.a4, .bool p.rf, .bool p.po] 47 (0, 0))) := by
    show _ ∧ _
    rw [← hW2]
    refine ⟨(heap_alloc_old _ _ _ (by simp)).trans (heap_alloc_new w _), ?_⟩
    have := heap_alloc_new (w.alloc (.cells #[.int .i64 p.kind, .string p.name, p.o2, p.o3, p.o4, p.o5, p.o6] 36)) (.cells #[.int .i64 p.e, .slice p.ad p.dl p.dc, p.a2, p.a3, p.a4, .bool p.rf, .bool p.po] 47)
    rwa [World.size_alloc] at this
  have HW := Lib.hid hW2
  have HT := Lib.hid ht
  have HF := Lib.hid hf
  have HN := Lib.hid hn
  have HK := Lib.hid hk
  have HWS := Lib.hid (word_size p.kind)
  clear hW2 ht hf hk
  have c0 : W2.cell? ⟨w.heap.size, 0, none⟩ = some (.int .i64 p.kind) := cell_of_row _ _ 0 _ _ _ HO.out.1
  go_enter Tryd.func16, Tryd.ntmps16
  go_upto_if 13 with (first
    | (go_at_call 7; (rw [HW.out]; refine (word33_any p.kind W2 HK.out).mono ?_; rintro e w3 ⟨rfl, hb3⟩; have HB3 : Hid (Below w.heap.size w w3) := HB.out.trans (hb3.mono HB.out.size); have hz3 := hb3.size; have HWA := Lib.hid (LnW.first hz2 HO.out.1 HO.out.2 hb3 (wordS p.kind)); clear hb3 c0; have c1 := cell_of_row _ _ 1 _ _ _ HWA.out.op))
    | (go_at_call 25; refine (rightM_any p.name _ (by unfold maxLen; omega)).mono ?_; rintro e w5 ⟨rfl, hb5⟩; have HWB := Lib.hid (HWA.out.below hb5); clear HWA hb5 c1))
  go_cut [5, 13] from 7 to 53 (fun v _ wx => LnW w3 w.heap.size p v (front p) wx)
  case first =>
    have c1 := cell_of_row _ _ 1 _ _ _ HWB.out.op
    by_cases hr : rightB p.name.data.toList = true
    · have hx : front p = [wordS p.kind, p.name] := by unfold front; rw [if_pos hr]
      rw [hr]
      go_wp2_with ((first | (at_builtin; (refine wpList_app1 w5 strElem33 rfl (.tmp 14) (.tmp 17) rfl w3.heap.size (.slice (some ⟨w3.heap.size, 0, none⟩) 1 1) 1 _ rfl HWB.out.own #[.string p.name] rfl rfl (by simp [Value.oneCell']) (by unfold maxLen; omega) (by omega) HWB.out.low.size ?_; intro A6 c6 w6 hA; have HWC := Lib.hid (HWB.out.app p.name hA); clear hA))))
      go_meet
      case rel => rw [hx]; exact HWC.out
    · have hr : rightB p.name.data.toList = false := by simpa using hr
      have hx : front p = [wordS p.kind] := by unfold front; rw [if_neg (by rw [hr]; decide)]
      rw [hr]
      go_wp2_with fail
      go_meet
      case rel => rw [hx]; exact HWB.out
  case rest =>
  have HWC := Lib.hid hcut
  clear hcut HWB
  go_upto_region 4 with fail
  go_cut [5] from 7 to 53 (fun v wx => LnW w3 w.heap.size p v (front2 p) wx)
  case first =>
    by_cases hr : rightB p.name.data.toList = true
    · have hx : front p = [wordS p.kind, p.name] := by unfold front; rw [if_pos hr]
      have hx2 : front2 p = [wordS p.kind, p.name ++ ⟨#[58]⟩] := by unfold front2; rw [if_pos hr]
      rw [hx] at HWC
      obtain ⟨g, c, rfl, hg, hgz, hgc⟩ := HWC.out.form (by show 0 < 2; omega)
      have c1 : wc.cell? ⟨g, 1, none⟩ = some (.string p.name) := HWC.out.cell rfl
      have f1 := own_free33 HWC.out.own 1
      have hs := HWC.out.set 1 (p.name ++ ⟨#[58]⟩)
      have hlen : [wordS p.kind, p.name].length = 2 := rfl
      rw [hlen] at *
      go_wp2_with fail
      go_meet
      case rel => rw [hx2]; exact hs
    · have hx : front p = [wordS p.kind] := by unfold front; rw [if_neg hr]
      have hx2 : front2 p = [wordS p.kind ++ ⟨#[58]⟩] := by unfold front2; rw [if_neg hr]
      rw [hx] at HWC
      obtain ⟨g, c, rfl, hg, hgz, hgc⟩ := HWC.out.form (by show 0 < 1; omega)
      have c1 : wc.cell? ⟨g, 0, none⟩ = some (.string (wordS p.kind)) := HWC.out.cell rfl
      have f1 := own_free33 HWC.out.own 0
      have hs := HWC.out.set 0 (wordS p.kind ++ ⟨#[58]⟩)
      have hlen : [wordS p.kind].length = 1 := rfl
      rw [hlen] at *
      have hws := HWS.out
      generalize wordS p.kind = ws at *
      go_wp2_with fail
      go_meet
      case rel => rw [hx2]; exact hs
  case rest =>
  have HWD := Lib.hid hcut
  clear hcut HWC
  have HL2 : Hid (0 < (front2 p).length ∧ (front2 p).length ≤ 2) := by
    show _ ∧ _
    unfold front2
    split
    · exact ⟨Nat.zero_lt_succ _, Nat.le_refl _⟩
    · exact ⟨Nat.zero_lt_succ _, by show 1 ≤ 2; omega⟩
  have hl1 := HL2.out.1
  have hl2 := HL2.out.2
  obtain ⟨g, c, rfl, hg, hgz, hgc⟩ := HWD.out.form HL2.out.1
  have d0 := cell_of_row _ _ 0 _ _ _ HWD.out.an
  have HLW : Hid (lineW p = front2 p ++ [codeS p.e] ++ (if cntS p = ⟨#[]⟩ then [] else [cntS p]) ++ (if p.rf then [⟨#[114, 101, 102, 117, 115, 101, 100]⟩] else []) ++ (if p.po then [⟨#[112, 111, 105, 115, 111, 110, 101, 100]⟩] else [])) := rfl
  have HC := Lib.hid (count33_any p)
  unfold Cnt33 at HC
  have HCD := Lib.hid (fun W => code33_any p.e W)
  generalize codeS p.e = cs at *
  generalize hfr : front2 p = fr at *
  clear hfr
  go_upto_if 37 with (first
    | (go_at_call 9; refine (HCD.out _).mono ?_; rintro e w8 ⟨rfl, hb8⟩; have HWE := Lib.hid (HWD.out.below hb8); clear hb8 d0)
    | (at_builtin; (refine wpList_app1 w8 strElem33 rfl (.tmp 27) (.tmp 31) rfl w3.heap.size (.slice (some ⟨g, 0, none⟩) fr.length c) fr.length _ rfl HWE.out.own #[.string cs] rfl rfl (by simp [Value.oneCell']) (by unfold maxLen; omega) (by omega) HWE.out.low.size ?_; intro A6 c6 w6 hA; have HWF := Lib.hid (HWE.out.app cs hA); clear hA; have x0 := cell_of_row _ _ 0 _ _ _ HWF.out.op; have y0 := cell_of_row _ _ 0 _ _ _ HWF.out.an; have x1 := cell_of_row _ _ 1 _ _ _ HWF.out.op; have y1 := cell_of_row _ _ 1 _ _ _ HWF.out.an; have x2 := cell_of_row _ _ 2 _ _ _ HWF.out.op; have y2 := cell_of_row _ _ 2 _ _ _ HWF.out.an; have x3 := cell_of_row _ _ 3 _ _ _ HWF.out.op; have y3 := cell_of_row _ _ 3 _ _ _ HWF.out.an; have x4 := cell_of_row _ _ 4 _ _ _ HWF.out.op; have y4 := cell_of_row _ _ 4 _ _ _ HWF.out.an; have x5 := cell_of_row _ _ 5 _ _ _ HWF.out.op; have y5 := cell_of_row _ _ 5 _ _ _ HWF.out.an; have x6 := cell_of_row _ _ 6 _ _ _ HWF.out.op; have y6 := cell_of_row _ _ 6 _ _ _ HWF.out.an))
    | (go_at_call 26; refine (HC.out _ HF.out (tab_below HT.out (HB3.out.trans (HWF.out.low.mono HB3.out.size)))).mono ?_; rintro e w10 ⟨rfl, hb10⟩; have HWG := Lib.hid (HWF.out.below hb10); clear hb10 x0 x1 x2 x3 x4 x5 x6 y0 y1 y2 y3 y4 y5 y6))
  have hl3 : (fr ++ [cs]).length ≤ 3 := by rw [List.length_append]; show _ + 1 ≤ 3; omega
  generalize cntS p = v at *
  go_cut [5, 37] from 7 to 53 (fun u _ wx => LnW w3 w.heap.size p u (fr ++ [cs] ++ (if v = ⟨#[]⟩ then [] else [v])) wx)
  case first =>
    by_cases hc : v = ⟨#[]⟩
    · have hv : v.toList.isEmpty = true := by rw [hc, ByteArray.toList_eq]; rfl
      rw [hv]
      go_wp2_with fail
      go_meet
      case rel => rw [if_pos hc, List.append_nil]; exact HWG.out
    · have hv : v.toList.isEmpty = false := by
        cases hl : v.toList with
        | nil => exact absurd (ByteArray.ext (by rw [← Array.toList_inj, ← ByteArray.toList_eq]; exact hl)) hc
        | cons a b => rfl
      rw [hv]
      go_wp2_with ((first | (at_builtin; (refine wpList_app1 w10 strElem33 rfl (.tmp 38) (.tmp 40) rfl w3.heap.size (.slice A6 (fr.length + 1) c6) (fr ++ [cs]).length _ rfl HWG.out.own #[.string v] rfl rfl (by simp [Value.oneCell']) (by unfold maxLen; omega) (by omega) HWG.out.low.size ?_; intro A7 c7 w11 hA; have HZ := Lib.hid (HWG.out.app v hA); clear hA))))
      go_meet
      case rel =>
        rw [if_neg hc]
        have hz := HZ.out
        rw [show (fr ++ [cs]).length = fr.length + 1 from List.length_append] at hz
        exact hz
  case rest =>
  have HWH := Lib.hid hcut
  have HLHWH : Hid (0 < (fr ++ [cs] ++ (if v = ⟨#[]⟩ then [] else [v])).length ∧ (fr ++ [cs] ++ (if v = ⟨#[]⟩ then [] else [v])).length ≤ 4) := by
    show _ ∧ _
    simp only [List.length_append, List.length_cons, List.length_nil] at hl3 ⊢
    split <;> simp only [List.length_nil, List.length_cons] <;> omega
  clear hcut HWG
  generalize fr ++ [cs] ++ (if v = ⟨#[]⟩ then [] else [v]) = s3 at *
  have hl43 := HLHWH.out
  obtain ⟨g43, c43, rfl, hg43, hgz43, hgc43⟩ := HWH.out.form (by omega)
  have b43 := cell_of_row _ _ 5 _ _ _ HWH.out.an
  go_upto_if 43 with fail
  go_cut [1, 5, 43] from 7 to 53 (fun _ u _ wx => LnW w3 w.heap.size p u (s3 ++ (if p.rf then [⟨#[114, 101, 102, 117, 115, 101, 100]⟩] else [])) wx)
  case first =>
    by_cases hr : p.rf = true
    · rw [hr]
      go_wp2_with ((first | (at_builtin; (refine wpList_app1 wc strElem33 rfl (.tmp 44) (.tmp 45) rfl w3.heap.size (.slice (some ⟨g43, 0, none⟩) s3.length c43) s3.length _ rfl HWH.out.own #[.string ⟨#[114, 101, 102, 117, 115, 101, 100]⟩] rfl rfl (by simp [Value.oneCell']) (by unfold maxLen; omega) (by omega) HWH.out.low.size ?_; intro A7 c7 w11 hA; have HZ := Lib.hid (HWH.out.app ⟨#[114, 101, 102, 117, 115, 101, 100]⟩ hA); clear hA))))
      go_meet
      case rel => rw [hr]; exact HZ.out
    · have hr : p.rf = false := by simpa using hr
      rw [hr]
      go_wp2_with fail
      go_meet
      case rel => rw [hr, if_neg (by decide), List.append_nil]; exact HWH.out
  case rest =>
  have HWI := Lib.hid hcut
  clear hcut HWH b43
  have HLHWI : Hid (0 < (s3 ++ (if p.rf then ([⟨#[114, 101, 102, 117, 115, 101, 100]⟩] : List ByteArray) else [])).length ∧ (s3 ++ (if p.rf then ([⟨#[114, 101, 102, 117, 115, 101, 100]⟩] : List ByteArray) else [])).length ≤ 5) := by
    show _ ∧ _
    have := HLHWH.out
    simp only [List.length_append]
    split <;> simp only [List.length_nil, List.length_cons] <;> omega
  generalize s3 ++ (if p.rf then [⟨#[114, 101, 102, 117, 115, 101, 100]⟩] else []) = s4 at *
  have hl48 := HLHWI.out
  obtain ⟨g48, c48, rfl, hg48, hgz48, hgc48⟩ := HWI.out.form (by omega)
  have b48 := cell_of_row _ _ 6 _ _ _ HWI.out.an
  go_upto_if 48 with fail
  go_cut [1, 5, 48] from 7 to 53 (fun _ u _ wx => LnW w3 w.heap.size p u (s4 ++ (if p.po then [⟨#[112, 111, 105, 115, 111, 110, 101, 100]⟩] else [])) wx)
  case first =>
    by_cases hr : p.po = true
    · rw [hr]
      go_wp2_with ((first | (at_builtin; (refine wpList_app1 wc strElem33 rfl (.tmp 49) (.tmp 50) rfl w3.heap.size (.slice (some ⟨g48, 0, none⟩) s4.length c48) s4.length _ rfl HWI.out.own #[.string ⟨#[112, 111, 105, 115, 111, 110, 101, 100]⟩] rfl rfl (by simp [Value.oneCell']) (by unfold maxLen; omega) (by omega) HWI.out.low.size ?_; intro A7 c7 w11 hA; have HZ := Lib.hid (HWI.out.app ⟨#[112, 111, 105, 115, 111, 110, 101, 100]⟩ hA); clear hA))))
      go_meet
      case rel => rw [hr]; exact HZ.out
    · have hr : p.po = false := by simpa using hr
      rw [hr]
      go_wp2_with fail
      go_meet
      case rel => rw [hr, if_neg (by decide), List.append_nil]; exact HWI.out
  case rest =>
  have HWJ := Lib.hid hcut
  clear hcut HWI b48
  rw [← HLW.out] at HWJ
  obtain ⟨g2, c2, rfl, hg2, hgz2, hgc2⟩ := HWJ.out.form (lineW_pos p)
  have HJ := Lib.hid (Tryd.strings_Join g2 0 c2 (lineW p) ⟨#[32]⟩ wc (fun j x hj => by rw [Nat.zero_add]; exact HWJ.out.cell hj) hgz2 (by have := lineW_len p; omega) hgc2 (by
    have h1 := join_le ((lineW p).map (·.data.toList)) (fun x hx => by
      obtain ⟨y, hy, rfl⟩ := List.mem_map.1 hx
      have := lineW_sizes HF.out HN.out y hy
      rw [Array.length_toList]
      exact this)
    rw [List.length_map] at h1
    have h2 := lineW_len p
    show (Lib.join ((lineW p).map (·.data.toList)) [32]).length ≤ _
    omega))
  go_wp2_with (go_at_call 27; refine HJ.out.mono ?_; rintro e w12 ⟨rfl, hb12⟩; have HBZ : Hid (Below w.heap.size w w12) := (HB3.out.trans (HWJ.out.low.mono HB3.out.size)).trans (hb12.mono (by have := HB3.out.size; have := HWJ.out.low.size; omega)); clear hb12)
  go_ret
  exact ⟨rfl, HBZ.out⟩
end Go.Proofs.YtkgkefifcpneiaaDoor
