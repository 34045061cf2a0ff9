/- Layer 6: CrashfsNone. -/
import Derived.Test.YtcfkepahilioaaaFcL
import Derived.Test.YtcfkepahilioaaaOpens
namespace Go.Proofs.Ytcfkepahilioaaa
open Go.RowKit Go.Maps

set_option maxRecDepth 100000 in
set_option maxHeartbeats 4000000 in
theorem crashfsnone_any (cap i a n : Int) (s : ByteArray) (hs : s.size ≤ maxLen) (w : World) :
    Calls Try.prog 3 #[.int .i64 cap, .agg #[.int .i64 i, .int .i64 a, .int .i64 n, .string s]] w fun x w' => x = .returned (.bool true) ∧ Below w.heap.size w w' := by
  have HB0 : Hid (Below w.heap.size w (w.alloc (.cells #[.int .i64 i, .int .i64 a, .int .i64 n, .string s] 23))) := (Below.refl _ w).alloc (Nat.le_refl _) _
  have HX0 : Hid ((w.alloc (.cells #[.int .i64 i, .int .i64 a, .int .i64 n, .string s] 23)).heap[w.heap.size]? = some (.cells #[.int .i64 i, .int .i64 a, .int .i64 n, .string s] 23 (0, 0))) := heap_alloc_new w _
  go_enter Try.func3, Try.ntmps3
  go_upto_region 1 with fail
  generalize w.alloc (.cells #[.int .i64 i, .int .i64 a, .int .i64 n, .string s] 23) = w0 at *
  have hz0 := HB0.out.size
  have hl0 : w.heap.size < w0.heap.size := (Array.getElem?_eq_some_iff.1 HX0.out).1
  go_upto_region 8 with (first
    | (go_at_call 5; refine (zrefuse none 0 0 w0).mono ?_; rintro e W0 ⟨rfl, rfl⟩)
    | (go_at_call 6; refine (zcrash none 0 0 0 0 w0).mono ?_; rintro e w1 ⟨rfl, hb1⟩; have HB1 : Hid (Below w.heap.size w w1) := HB0.out.trans (hb1.mono hz0); have HX1 : Hid (w1.heap[w.heap.size]? = some (.cells #[.int .i64 i, .int .i64 a, .int .i64 n, .string s] 23 (0, 0))) := (hb1.block _ hl0).trans HX0.out; clear hb1; have x0 := cell_of_row _ _ 0 _ _ _ HX1.out; have x1 := cell_of_row _ _ 1 _ _ _ HX1.out; have x2 := cell_of_row _ _ 2 _ _ _ HX1.out; have x3 := cell_of_row _ _ 3 _ _ _ HX1.out)
    | (go_at_call 7; refine (zcreate s w1).mono ?_; rintro e W0 ⟨rfl, rfl⟩)
    | (go_at_call 8; refine (zopen s w1).mono ?_; rintro e W0 ⟨rfl, rfl⟩)
    | (go_at_call 9; refine (zread i a n w1).mono ?_; rintro e W0 ⟨rfl, rfl⟩)
    | (go_at_call 10; refine (zcalls w1).mono ?_; rintro e W0 ⟨rfl, rfl⟩))
  go_upto_region 12 with (first
    | (go_at_call 11; refine (zwrite i a none 0 0 w1).mono ?_; rintro e W0 ⟨rfl, rfl⟩)
    | (go_at_call 12; refine (zsync i w1).mono ?_; rintro e W0 ⟨rfl, rfl⟩)
    | (go_at_call 13; refine (zsyncdir w1).mono ?_; rintro e W0 ⟨rfl, rfl⟩)
    | (go_at_call 14; refine (zrename s s w1).mono ?_; rintro e W0 ⟨rfl, rfl⟩)
    | (go_at_call 15; refine (zremove s w1).mono ?_; rintro e W0 ⟨rfl, rfl⟩)
    | (go_at_call 16; refine (zsize i w1).mono ?_; rintro e W0 ⟨rfl, rfl⟩)
    | (go_at_call 17; refine (zused w1).mono ?_; rintro e W0 ⟨rfl, rfl⟩)
    | (go_at_call 18; refine (znames w1).mono ?_; rintro e W0 ⟨rfl, rfl⟩)
    | (go_at_call 19; refine (zwaiting w1).mono ?_; rintro e W0 ⟨rfl, rfl⟩))
  go_upto_region 15 with (first
    | (go_at_call 20; refine (fsnew cap w1).mono ?_; rintro e w2 ⟨rfl, cp, hd2, hb2⟩; have HD2 := Lib.hid hd2; have HB2 : Hid (Below w.heap.size w w2) := HB1.out.trans (hb2.mono HB1.out.size); have HX2 : Hid (w2.heap[w.heap.size]? = some (.cells #[.int .i64 i, .int .i64 a, .int .i64 n, .string s] 23 (0, 0))) := (hb2.block _ (Array.getElem?_eq_some_iff.1 HX1.out).1).trans HX1.out; clear hd2 hb2 x0 x1 x2 x3; have x0 := cell_of_row _ _ 0 _ _ _ HX2.out; have x1 := cell_of_row _ _ 1 _ _ _ HX2.out; have x2 := cell_of_row _ _ 2 _ _ _ HX2.out; have x3 := cell_of_row _ _ 3 _ _ _ HX2.out)
    | (go_at_call 8; refine (open6_nil HD2.out s hs).mono ?_; rintro e W0 ⟨rfl, rfl⟩)
    | (go_at_call 9; refine (read6_none HD2.out none 0 rfl i a n).mono ?_; rintro e W0 ⟨rfl, rfl⟩))
  have hne : w.heap.size ≠ w1.heap.size := by have := (Array.getElem?_eq_some_iff.1 HX1.out).1; omega
  go_wp2_with ((first
    | (go_at_call 11; refine (write6_none HD2.out none 0 rfl none 0 rfl 0 (by omega) rfl i a).mono ?_; rintro e w3 ⟨rfl, hd3, hm3⟩; have HD3 := Lib.hid hd3; have HB3 : Hid (Below w.heap.size w w3) := one_below HB2.out hm3 HB1.out.size HB2.out.size; have HX3 : Hid (w3.heap[w.heap.size]? = some (.cells #[.int .i64 i, .int .i64 a, .int .i64 n, .string s] 23 (0, 0))) := hm3.keep HX2.out hne; clear hd3 hm3 x0 x1 x2 x3; have x0 := cell_of_row _ _ 0 _ _ _ HX3.out; have x1 := cell_of_row _ _ 1 _ _ _ HX3.out; have x2 := cell_of_row _ _ 2 _ _ _ HX3.out; have x3 := cell_of_row _ _ 3 _ _ _ HX3.out)
    | (go_at_call 12; refine (sync6_none HD3.out none 0 rfl none 0 rfl 1 (by omega) rfl i).mono ?_; rintro e w4 ⟨rfl, hd4, hm4⟩; have HD4 := Lib.hid hd4; have HB4 : Hid (Below w.heap.size w w4) := one_below HB3.out hm4 HB1.out.size HB3.out.size; have HX4 : Hid (w4.heap[w.heap.size]? = some (.cells #[.int .i64 i, .int .i64 a, .int .i64 n, .string s] 23 (0, 0))) := hm4.keep HX3.out hne; clear hd4 hm4 x0 x1 x2 x3; have x0 := cell_of_row _ _ 0 _ _ _ HX4.out; have x1 := cell_of_row _ _ 1 _ _ _ HX4.out; have x2 := cell_of_row _ _ 2 _ _ _ HX4.out; have x3 := cell_of_row _ _ 3 _ _ _ HX4.out)
    | (go_at_call 16; refine (size6_none HD4.out none 0 rfl i).mono ?_; rintro e W0 ⟨rfl, rfl⟩)
    | (go_at_call 17; refine (used6_none HD4.out none 0 rfl).mono ?_; rintro e W0 ⟨rfl, rfl⟩)
    | (go_at_call 21; refine (lives6_any w4).mono ?_; rintro e w5 ⟨rfl, hb5⟩; have HB5 : Hid (Below w.heap.size w w5) := HB4.out.trans (hb5.mono HB4.out.size); clear hb5)))
  go_ret
  exact ⟨rfl, HB5.out⟩
def askSh : Sh := (Sh.int IntKind.i64).cons ((Sh.int IntKind.i64).cons ((Sh.int IntKind.i64).cons (Sh.str.cons Sh.nil)))
theorem crashfsnone_in (cap : Int) (cs : Array Value) (w : World) (h : Lies w askSh cs.toList) :
    Calls Try.prog 3 #[.int .i64 cap, .agg cs] w fun x w' => x = .returned (.bool true) ∧ Below w.heap.size w w' := by
  obtain ⟨u0, u, e, _, _, ⟨i, rfl, _⟩, hu⟩ := h
  obtain ⟨u1, u, rfl, _, _, ⟨a, rfl, _⟩, hu⟩ := hu
  obtain ⟨u2, u, rfl, _, _, ⟨n, rfl, _⟩, hu⟩ := hu
  obtain ⟨u3, n9, rfl, _, _, ⟨s, rfl, hs⟩, h9⟩ := hu
  obtain rfl : n9 = [] := h9
  have e2 : cs = #[.int .i64 i, .int .i64 a, .int .i64 n, .string s] := by
    apply Array.toList_inj.1
    rw [e]
    rfl
  subst e2
  exact crashfsnone_any cap i a n s hs w
end Go.Proofs.Ytcfkepahilioaaa
