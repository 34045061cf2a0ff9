/- Layer 33: the chapter's example. -/
import Derived.Test.YtkgkefifcpneiaaDoorReW
import Derived.Test.YtkgkefifcpneiaaDoorMoves
import Derived.Test.YtkgkefifcpneiaaDoorRowK
import Derived.Test.YtkgkefifcpneiaaDoorGrow
import Derived.Test.YtkgkefifcpneiaaDoorLay
namespace Go.Proofs.YtkgkefifcpneiaaDoor
open Go.RowKit

theorem itoa33_3 (w : World) : Calls Tryd.prog 35 #[.int .i64 3] w fun e w' => e = .returned (.string ⟨#[51]⟩) ∧ w' = w := by
  have h := Tryd.strconv_Itoa_small 3 (by omega) w
  rw [show (Lib.decDigits 3).toArray = #[51] from by kernel_rfl] at h
  exact h
set_option maxHeartbeats 1000000 in
theorem count33_get (ad : Addr) (c : Nat) (w : World) :
    Calls Tryd.prog 26 #[.agg #[.int .i64 8, .string ⟨#[97]⟩, .slice none 0 0, .int .i64 0, .slice none 0 0, .int .i64 0, .int .u8 0], .agg #[.int .i64 0, .slice (some ad) 3 c, .int .i64 0, .slice none 0 0, .slice none 0 0, .bool false, .bool false]] w fun e w' => e = .returned (.string ⟨#[51, 98]⟩) ∧ Below w.heap.size w w' := by
  obtain ⟨W2, hW2⟩ : ∃ W2, (w.alloc (.cells #[.int .i64 8, .string ⟨#[97]⟩, .slice none 0 0, .int .i64 0, .slice none 0 0, .int .i64 0, .int .u8 0] 36)).alloc (.cells #[.int .i64 0, .slice (some ad) 3 c, .int .i64 0, .slice none 0 0, .slice none 0 0, .bool false, .bool false] 47) = W2 := ⟨_, rfl⟩
  have HB : Hid (Below w.heap.size w W2) := by
    show Below _ _ _
    rw [← hW2]
    exact ((Below.refl _ w).alloc (Nat.le_refl _) _).alloc (by simp) _
  have HW := Lib.hid hW2
  clear hW2
  go_enter Tryd.func26, Tryd.ntmps26
  go_wp2_with (go_at_call 35; rw [HW.out]; refine (itoa33_3 W2).mono ?_; rintro e w1 ⟨rfl, rfl⟩)
  go_ret
  exact ⟨rfl, HB.out⟩
/-- What the chapter's example holds: its step and its answer, each in a block. -/
def Ex33 (n : Nat) (ad : Addr) (c : Nat) (W : World) : Prop :=
  W.heap[n]? = some (.cells #[.int .i64 8, .string ⟨#[97]⟩, .slice none 0 0, .int .i64 0, .slice none 0 0, .int .i64 0, .int .u8 0] 36) ∧ W.heap[n + 1]? = some (.cells #[.int .i64 0, .slice (some ad) 3 c, .int .i64 0, .slice none 0 0, .slice none 0 0, .bool false, .bool false] 47)
theorem Ex33.below {n m : Nat} {ad : Addr} {c : Nat} {W W1 : World} (h : Ex33 n ad c W) (hb : Below m W W1) (hm : n + 2 ≤ m) : Ex33 n ad c W1 :=
  ⟨(hb.block n (by omega)).trans h.1, (hb.block (n + 1) (by omega)).trans h.2⟩
theorem strElem33 : Elem Tryd.prog 43 9 (.string ⟨#[]⟩) 1 16 := Elem.of Tryd.underlying43 (by kernel_rfl) rfl (by omega)
theorem own33_new (w : World) (s : ByteArray) : (w.alloc (.cells #[.string s] 9)).ownsRow w.heap.size 9 1 (.slice (some ⟨w.heap.size, 0, none⟩) 1 1) 1 [.string s] :=
  ⟨rfl, .inr ⟨w.heap.size, 1, #[.string s], rfl, Nat.le_refl _, heap_alloc_new w _, Nat.le_refl _, by unfold maxLen; omega, rfl, rfl⟩⟩
theorem own_setK33 {w : World} {base g k n c j : Nat} {e : TypeId} {xs : List Value} {u : Value} (h : w.ownsRow base e k (.slice (some ⟨g, 0, none⟩) n c) n xs) : (w.setCell ⟨g, j, none⟩ u).ownsRow base e k (.slice (some ⟨g, 0, none⟩) n c) n (xs.set j u) := by
  rcases h.2 with ⟨h2, _⟩ | ⟨g', cap, cur, hv, hg, hh, hnc, hcm, hcs, htake⟩
  · cases h2
  · simp only [Value.slice.injEq, Option.some.injEq, Addr.mk.injEq] at hv
    obtain ⟨⟨rfl, _, _⟩, _, rfl⟩ := hv
    refine ⟨by rw [List.length_set]; exact h.1, .inr ⟨g, c, cur.setIfInBounds j u, rfl, hg, heap_setCell_same w g j _ _ _ hh, hnc, hcm, by simp [hcs], ?_⟩⟩
    rw [Array.toList_setIfInBounds, List.take_set, htake]
theorem own_free33 {w : World} {base g k n c : Nat} {e : TypeId} {xs : List Value} (h : w.ownsRow base e k (.slice (some ⟨g, 0, none⟩) n c) n xs) (j : Nat) : w.frozen? ⟨g, j, none⟩ = false := by
  rcases h.2 with ⟨h2, _⟩ | ⟨g', cap, cur, hv, hg, hh, _⟩
  · cases h2
  · simp only [Value.slice.injEq, Option.some.injEq, Addr.mk.injEq] at hv
    obtain ⟨⟨rfl, _, _⟩, _, rfl⟩ := hv
    simp [World.frozen?, hh]
/-- The line's words so far. -/
structure Wd33 (n : Nat) (ad : Addr) (c : Nat) (w3 W : World) (v : Value) (k : Nat) (os : List Value) : Prop where
  low : Below w3.heap.size w3 W
  own : W.ownsRow w3.heap.size 9 1 v k os
  ex : Ex33 n ad c W
  room : n + 2 ≤ w3.heap.size
theorem Wd33.base {n : Nat} {ad : Addr} {c : Nat} {w3 W : World} {v : Value} {k : Nat} {os : List Value} (h : Wd33 n ad c w3 W v k os) : ∀ j, v.ownBlock = some j → w3.heap.size ≤ j := fun j hj => by
  rcases ownK_form h.own with ⟨he, _⟩ | ⟨g, c', he⟩
  · rw [he] at hj; cases hj
  · have hr := h.own
    rw [he] at hr hj
    obtain ⟨_, _, _, hb, _⟩ := ownK_row hr
    obtain rfl : g = j := by injection hj
    exact hb
theorem Wd33.form {n : Nat} {ad : Addr} {c : Nat} {w3 W : World} {A : Option Addr} {c1 k : Nat} {os : List Value} (h : Wd33 n ad c w3 W (.slice A k c1) k os) (hk : 0 < k) : ∃ g, A = some ⟨g, 0, none⟩ ∧ w3.heap.size ≤ g ∧ g < W.heap.size ∧ k ≤ c1 := by
  rcases ownK_form h.own with ⟨_, he⟩ | ⟨g, c', he⟩
  · omega
  · injection he with hA _ hc
    subst hA hc
    obtain ⟨cur, hg, _, hb, hn, _⟩ := ownK_row h.own
    exact ⟨g, rfl, hb, (Array.getElem?_eq_some_iff.1 hg).1, hn⟩
theorem Wd33.below {n : Nat} {ad : Addr} {c : Nat} {w3 W W1 : World} {v : Value} {k : Nat} {os : List Value} (h : Wd33 n ad c w3 W v k os) (hb : Below W.heap.size W W1) : Wd33 n ad c w3 W1 v k os :=
  ⟨h.low.trans (hb.mono h.low.size), own_keep h.own (Mod.of_below hb) (fun _ _ hh => hh), h.ex.below hb (Nat.le_trans h.room h.low.size), h.room⟩
theorem Wd33.app {n : Nat} {ad : Addr} {c : Nat} {w3 W W1 : World} {v v1 : Value} {k k1 : Nat} {os os1 : List Value} (h : Wd33 n ad c w3 W v k os) (hA : App W w3.heap.size 9 1 v k1 os1 W1 v1) : Wd33 n ad c w3 W1 v1 k1 os1 :=
  have hb := hA.below (Below.refl w3.heap.size W) h.low.size h.base
  ⟨h.low.trans hb, hA.own, h.ex.below hb h.room, h.room⟩
theorem Wd33.set {n : Nat} {ad : Addr} {c : Nat} {w3 W : World} {g c1 k : Nat} {os : List Value} (h : Wd33 n ad c w3 W (.slice (some ⟨g, 0, none⟩) k c1) k os) (j : Nat) (u : Value) : Wd33 n ad c w3 (W.setCell ⟨g, j, none⟩ u) (.slice (some ⟨g, 0, none⟩) k c1) k (os.set j u) :=
  have hg : w3.heap.size ≤ g := h.base g rfl
  have hb : Below w3.heap.size W (W.setCell ⟨g, j, none⟩ u) := (Below.refl _ W).setCell (by show w3.heap.size ≤ g; exact hg) u
  ⟨h.low.trans hb, own_setK33 h.own, h.ex.below hb h.room, h.room⟩
theorem Wd33.cell {n : Nat} {ad : Addr} {c : Nat} {w3 W : World} {g c1 k : Nat} {os : List Value} (h : Wd33 n ad c w3 W (.slice (some ⟨g, 0, none⟩) k c1) k os) {j : Nat} {u : Value} (hj : os[j]? = some u) : W.cell? ⟨g, j, none⟩ = some u := by
  obtain ⟨cur, hg, htk, _, _, _, _, hxl⟩ := ownK_row h.own
  have := seg_cells hg 0 os (by rw [List.drop_zero, hxl]; exact htk) j u hj
  rwa [Addr.add_lit, Nat.zero_add] at this
theorem Ex33.get {n : Nat} {ad : Addr} {c : Nat} {W : World} (h : Ex33 n ad c W) : W.cell? ⟨n, 1, none⟩ = some (.string ⟨#[97]⟩) ∧ W.cell? ⟨n + 1, 0, none⟩ = some (.int .i64 0) ∧ W.cell? ⟨n + 1, 5, none⟩ = some (.bool false) ∧ W.cell? ⟨n + 1, 6, none⟩ = some (.bool false) :=
  ⟨(cell_of_row W n 1 _ _ _ h.1).trans rfl, (cell_of_row W (n + 1) 0 _ _ _ h.2).trans rfl, (cell_of_row W (n + 1) 5 _ _ _ h.2).trans rfl, (cell_of_row W (n + 1) 6 _ _ _ h.2).trans rfl⟩
theorem Ex33.all {n : Nat} {ad : Addr} {c : Nat} {W : World} (h : Ex33 n ad c W) : W.cell? ⟨n, 0, none⟩ = some (.int .i64 8) ∧ W.cell? ⟨n, 1, none⟩ = some (.string ⟨#[97]⟩) ∧ W.cell? ⟨n, 2, none⟩ = some (.slice none 0 0) ∧ W.cell? ⟨n, 3, none⟩ = some (.int .i64 0) ∧ W.cell? ⟨n, 4, none⟩ = some (.slice none 0 0) ∧ W.cell? ⟨n, 5, none⟩ = some (.int .i64 0) ∧ W.cell? ⟨n, 6, none⟩ = some (.int .u8 0) ∧ W.cell? ⟨n + 1, 0, none⟩ = some (.int .i64 0) ∧ W.cell? ⟨n + 1, 1, none⟩ = some (.slice (some ad) 3 c) ∧ W.cell? ⟨n + 1, 2, none⟩ = some (.int .i64 0) ∧ W.cell? ⟨n + 1, 3, none⟩ = some (.slice none 0 0) ∧ W.cell? ⟨n + 1, 4, none⟩ = some (.slice none 0 0) ∧ W.cell? ⟨n + 1, 5, none⟩ = some (.bool false) ∧ W.cell? ⟨n + 1, 6, none⟩ = some (.bool false) :=
  ⟨(cell_of_row W n 0 _ _ _ h.1).trans rfl, (cell_of_row W n 1 _ _ _ h.1).trans rfl, (cell_of_row W n 2 _ _ _ h.1).trans rfl, (cell_of_row W n 3 _ _ _ h.1).trans rfl, (cell_of_row W n 4 _ _ _ h.1).trans rfl, (cell_of_row W n 5 _ _ _ h.1).trans rfl, (cell_of_row W n 6 _ _ _ h.1).trans rfl, (cell_of_row W (n + 1) 0 _ _ _ h.2).trans rfl, (cell_of_row W (n + 1) 1 _ _ _ h.2).trans rfl, (cell_of_row W (n + 1) 2 _ _ _ h.2).trans rfl, (cell_of_row W (n + 1) 3 _ _ _ h.2).trans rfl, (cell_of_row W (n + 1) 4 _ _ _ h.2).trans rfl, (cell_of_row W (n + 1) 5 _ _ _ h.2).trans rfl, (cell_of_row W (n + 1) 6 _ _ _ h.2).trans rfl⟩
theorem key33 : (⟨#[97]⟩ ++ ⟨#[58]⟩ : ByteArray) = ⟨#[97, 58]⟩ := by kernel_rfl
theorem right33_a (w : World) : Calls Tryd.prog 25 #[.string ⟨#[97]⟩] w fun e w' => e = .returned (.bool true) ∧ Below w.heap.size w w' := by
  have h := rightM_any ⟨#[97]⟩ w (by decide)
  rwa [show rightB (⟨#[97]⟩ : ByteArray).data.toList = true from by kernel_rfl] at h
theorem join33_any (g c1 : Nat) (w : World) (hg : g < w.heap.size) (hc : 4 ≤ c1) (h0 : w.cell? ⟨g, 0, none⟩ = some (.string ⟨#[103, 101, 116]⟩)) (h1 : w.cell? ⟨g, 1, none⟩ = some (.string ⟨#[97, 58]⟩)) (h2 : w.cell? ⟨g, 2, none⟩ = some (.string ⟨#[111, 107]⟩)) (h3 : w.cell? ⟨g, 3, none⟩ = some (.string ⟨#[51, 98]⟩)) :
    Calls Tryd.prog 27 #[.slice (some ⟨g, 0, none⟩) 4 c1, .string ⟨#[32]⟩] w fun e w' => e = .returned (.string ⟨#[103, 101, 116, 32, 97, 58, 32, 111, 107, 32, 51, 98]⟩) ∧ Below w.heap.size w w' := by
  have h := Tryd.strings_Join g 0 c1 [⟨#[103, 101, 116]⟩, ⟨#[97, 58]⟩, ⟨#[111, 107]⟩, ⟨#[51, 98]⟩] ⟨#[32]⟩ w (fun j x hj => by
    rw [Nat.zero_add]
    match j, hj with
    | 0, hj => injection hj with hj; subst hj; exact h0
    | 1, hj => injection hj with hj; subst hj; exact h1
    | 2, hj => injection hj with hj; subst hj; exact h2
    | 3, hj => injection hj with hj; subst hj; exact h3
    | _ + 4, hj => cases hj) hg (by decide) hc (by decide)
  rwa [show (Lib.join ([⟨#[103, 101, 116]⟩, ⟨#[97, 58]⟩, ⟨#[111, 107]⟩, ⟨#[51, 98]⟩].map fun x : ByteArray => x.data.toList) (⟨#[32]⟩ : ByteArray).data.toList).toArray = #[103, 101, 116, 32, 97, 58, 32, 111, 107, 32, 51, 98] from by kernel_rfl] at h
set_option maxHeartbeats 4000000 in
theorem line33_get (ad : Addr) (c : Nat) (w : World) :
    Calls Tryd.prog 16 #[.agg #[.int .i64 8, .string ⟨#[97]⟩, .slice none 0 0, .int .i64 0, .slice none 0 0, .int .i64 0, .int .u8 0], .agg #[.int .i64 0, .slice (some ad) 3 c, .int .i64 0, .slice none 0 0, .slice none 0 0, .bool false, .bool false]] w fun e w' => e = .returned (.string ⟨#[103, 101, 116, 32, 97, 58, 32, 111, 107, 32, 51, 98]⟩) ∧ Below w.heap.size w w' := by
  obtain ⟨W2, hW2⟩ : ∃ W2, (w.alloc (.cells #[.int .i64 8, .string ⟨#[97]⟩, .slice none 0 0, .int .i64 0, .slice none 0 0, .int .i64 0, .int .u8 0] 36)).alloc (.cells #[.int .i64 0, .slice (some ad) 3 c, .int .i64 0, .slice none 0 0, .slice none 0 0, .bool false, .bool false] 47) = W2 := ⟨_, rfl⟩
  have HB : Hid (Below w.heap.size w W2) := by
    show Below _ _ _
    rw [← hW2]
    exact ((Below.refl _ w).alloc (Nat.le_refl _) _).alloc (by simp) _
  have hz2 : W2.heap.size = w.heap.size + 2 := by rw [← hW2]; simp
  have HE2 : Hid (Ex33 w.heap.size ad c W2) := by
    show Ex33 _ _ _ _
    rw [← hW2]
    refine ⟨(heap_alloc_old _ _ _ (by simp)).trans (heap_alloc_new w _), ?_⟩
    have := heap_alloc_new (w.alloc (.cells #[.int .i64 8, .string ⟨#[97]⟩, .slice none 0 0, .int .i64 0, .slice none 0 0, .int .i64 0, .int .u8 0] 36)) (.cells #[.int .i64 0, .slice (some ad) 3 c, .int .i64 0, .slice none 0 0, .slice none 0 0, .bool false, .bool false] 47)
    rwa [show (w.alloc (.cells #[.int .i64 8, .string ⟨#[97]⟩, .slice none 0 0, .int .i64 0, .slice none 0 0, .int .i64 0, .int .u8 0] 36)).heap.size = w.heap.size + 1 by simp] at this
  have HW := Lib.hid hW2
  clear hW2
  go_enter Tryd.func16, Tryd.ntmps16
  go_wp2_with ((first
    | (go_at_call 7; rw [HW.out]; refine (word33_any 8 W2 (by omega)).mono ?_; rw [show wordS 8 = ⟨#[103, 101, 116]⟩ from rfl]; rintro e w3 ⟨rfl, hb3⟩; have HB3 : Hid (Below w.heap.size w w3) := HB.out.trans (hb3.mono HB.out.size); have hz3 := hb3.size; have HWA := Lib.hid (Wd33.mk (w3 := w3) (W := w3.alloc (.cells #[.string ⟨#[103, 101, 116]⟩] 9)) ((Below.refl _ w3).alloc (Nat.le_refl _) _) (own33_new w3 ⟨#[103, 101, 116]⟩) ((HE2.out.below hb3 (by omega)).below ((Below.refl _ w3).alloc (Nat.le_refl _) _) (by omega)) (by omega)); obtain ⟨c1, d0, d5, d6⟩ := HWA.out.ex.get; clear hb3)
    | (go_at_call 25; refine (right33_a _).mono ?_; rintro e w5 ⟨rfl, hb5⟩; have HWB := Lib.hid (HWA.out.below hb5); clear HWA hb5 c1 d0 d5 d6; obtain ⟨c1, d0, d5, d6⟩ := HWB.out.ex.get)
    | (at_builtin; refine wpList_app1 w5 strElem33 rfl (.tmp 14) (.tmp 17) rfl w3.heap.size (.slice (some ⟨w3.heap.size, 0, none⟩) 1 1) 1 _ rfl HWB.out.own #[.string ⟨#[97]⟩] rfl rfl (by simp [Value.oneCell']) (by unfold maxLen; omega) (by omega) HWB.out.low.size ?_; intro A6 c6 w6 hA; have HWC := Lib.hid (HWB.out.app hA); clear hA HWB c1 d0 d5 d6; obtain ⟨g6, rfl, hg6, hs6, hc6⟩ := HWC.out.form (by omega); have e1 : w6.cell? ⟨g6, 1, none⟩ = some (.string ⟨#[97]⟩) := HWC.out.cell rfl; have f1 := own_free33 HWC.out.own 1; obtain ⟨c1, d0, d5, d6⟩ := HWC.out.ex.get)
    | (go_at_call 9; refine (code33_any 0 _).mono ?_; rw [show codeS 0 = ⟨#[111, 107]⟩ from rfl]; rintro e w8 ⟨rfl, hb8⟩; have hq := (HWC.out.set 1 (.string (⟨#[97]⟩ ++ ⟨#[58]⟩ : ByteArray))).below hb8; rw [key33] at hq; have HWD := Lib.hid hq; clear hq; clear HWC hb8 e1 f1 c1 d0 d5 d6)
    | (at_builtin; refine wpList_app1 w8 strElem33 rfl (.tmp 27) (.tmp 31) rfl w3.heap.size (.slice (some ⟨g6, 0, none⟩) 2 c6) 2 _ rfl HWD.out.own #[.string ⟨#[111, 107]⟩] rfl rfl (by simp [Value.oneCell']) (by unfold maxLen; omega) (by omega) HWD.out.low.size ?_; intro A9 c9 w9 hA; have HWE := Lib.hid (HWD.out.app hA); clear hA HWD; obtain ⟨x0, x1, x2, x3, x4, x5, x6, y0, y1, y2, y3, y4, y5, y6⟩ := HWE.out.ex.all)
    | (go_at_call 26; refine (count33_get ad c _).mono ?_; rintro e w10 ⟨rfl, hb10⟩; have HWF := Lib.hid (HWE.out.below hb10); clear HWE hb10 x0 x1 x2 x3 x4 x5 x6 y0 y1 y2 y3 y4 y5 y6)
    | (at_builtin; refine wpList_app1 w10 strElem33 rfl (.tmp 38) (.tmp 40) rfl w3.heap.size (.slice A9 3 c9) 3 _ rfl HWF.out.own #[.string ⟨#[51, 98]⟩] rfl rfl (by simp [Value.oneCell']) (by unfold maxLen; omega) (by omega) HWF.out.low.size ?_; intro A11 c11 w11 hA; have HWG := Lib.hid (HWF.out.app hA); clear hA HWF; obtain ⟨g11, rfl, hg11, hs11, hc11⟩ := HWG.out.form (by omega); obtain ⟨c1, d0, d5, d6⟩ := HWG.out.ex.get)
    | (go_at_call 27; refine (join33_any g11 c11 w11 hs11 hc11 (HWG.out.cell rfl) (HWG.out.cell rfl) (HWG.out.cell rfl) (HWG.out.cell rfl)).mono ?_; rintro e w12 ⟨rfl, hb12⟩; have HBZ : Hid (Below w.heap.size w w12) := (HB3.out.trans (HWG.out.low.mono HB3.out.size)).trans (hb12.mono (by have := HB3.out.size; have := HWG.out.low.size; omega)); clear hb12)))
  go_ret
  exact ⟨rfl, HBZ.out⟩
end Go.Proofs.YtkgkefifcpneiaaDoor
