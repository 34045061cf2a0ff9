/- Layer 26: SpaceNone walked; acts and files that came in. -/
import Derived.Test.YtkggobndofjclaaSpE
namespace Go.Proofs.Ytkggobndofjclaa
open Go.RowKit
attribute [local go_sem ↓] Go.wp_at_zero Go.wp_at_succ

set_option maxHeartbeats 1000000 in
theorem none26_any (k : Int) (s : ByteArray) (n : Int) (A : Option Addr) (l c : Nat) (w : World) :
    Calls Try.prog 5 #[.agg #[.int .i64 k, .string s, .int .i64 n, .slice A l c]] w fun e w' => e = .returned (.bool true) ∧ Below w.heap.size w w' := by
  have HX : Hid (Box (w.alloc (.cells #[.int .i64 k, .string s, .int .i64 n, .slice A l c] 32)) w.heap.size #[.int .i64 k, .string s, .int .i64 n, .slice A l c] 32) := heap_alloc_new w _
  have HB := Lib.hid ((Below.refl w.heap.size w).alloc (Nat.le_refl _) (.cells #[.int .i64 k, .string s, .int .i64 n, .slice A l c] 32))
  go_enter Try.func5, Try.ntmps5
  go_wp2_with fail
  refine (put26_nil s n _).mono ?_
  rintro e w1 ⟨rfl, hb⟩
  have HX1 := Lib.hid (HX.out.below hb HX.out.lt)
  have HB1 := Lib.hid (HB.out.trans (hb.mono HB.out.size))
  have x1 : w1.cell? ⟨w.heap.size, 1, none⟩ = some (.string s) := HX1.out.cell 1
  clear hb
  go_wp2_with fail
  refine (delete26_nil s _).mono ?_
  rintro e w2 ⟨rfl, hb⟩
  have HX2 := Lib.hid (HX1.out.below hb HX1.out.lt)
  have HB2 := Lib.hid (HB1.out.trans (hb.mono HB1.out.size))
  clear hb x1
  have x1 : w2.cell? ⟨w.heap.size, 1, none⟩ = some (.string s) := HX2.out.cell 1
  go_wp2_with fail
  refine (stream26_nil s _).mono ?_
  rintro e w3 ⟨rfl, hb⟩
  have HX3 := Lib.hid (HX2.out.below hb HX2.out.lt)
  have HB3 := Lib.hid (HB2.out.trans (hb.mono HB2.out.size))
  clear hb x1
  have x2 : w3.cell? ⟨w.heap.size, 2, none⟩ = some (.int .i64 n) := HX3.out.cell 2
  go_wp2_with fail
  refine (more26_nil n _).mono ?_
  rintro e w4 ⟨rfl, hb⟩
  have HX4 := Lib.hid (HX3.out.below hb HX3.out.lt)
  have HB4 := Lib.hid (HB3.out.trans (hb.mono HB3.out.size))
  clear hb x2
  have x3 : w4.cell? ⟨w.heap.size, 3, none⟩ = some (.slice A l c) := HX4.out.cell 3
  go_wp2_with (first
    | (go_at_call 23; refine (vacuum_nil A l c _).mono ?_; rintro e w' ⟨rfl, rfl⟩)
    | (go_at_call 11; refine (issued_nil _).mono ?_; rintro e w' ⟨rfl, rfl⟩)
    | (go_at_call 12; refine (bound_nil A l c _).mono ?_; rintro e w' ⟨rfl, rfl⟩)
    | (go_at_call 9; refine (lives26_any _).mono ?_; rintro e w6 ⟨rfl, hb⟩; have HB6 := Lib.hid (HB4.out.trans (hb.mono HB4.out.size)); clear hb))
  go_ret
  exact ⟨rfl, HB6.out⟩

/-- A file's shape, an act's. -/
abbrev fileSh : Sh := .cons .str (.cons (.slice (.int .u8)) .nil)
abbrev actSh : Sh := .cons (.int .i64) (.cons .str (.cons (.int .i64) (.cons (.slice fileSh) .nil)))
theorem file_lies {w : World} {x : List Value} (h : Lies w fileSh x) : ∃ f : LF, x = f.cells := by
  obtain ⟨a, r1, rfl, _, _, ⟨s, rfl, _⟩, h1⟩ := h
  obtain ⟨b, r2, rfl, _, _, ⟨A, len, cap, X, rfl, _⟩, h2⟩ := h1
  have h2' : r2 = [] := h2
  subst h2'
  exact ⟨⟨s, A, len, cap⟩, rfl⟩
theorem files_lie {w : World} {X : List (List Value)} (h : ∀ x ∈ X, Lies w fileSh x) : ∃ fs : List LF, X = fs.map LF.cells := by
  induction X with
  | nil => exact ⟨[], rfl⟩
  | cons x l ih =>
    obtain ⟨f, rfl⟩ := file_lies (h x (by simp))
    obtain ⟨fs, rfl⟩ := ih (fun y hy => h y (by simp [hy]))
    exact ⟨f :: fs, rfl⟩
/-- A slice of files that came in. -/
theorem files_in {w : World} {cs : List Value} (h : Lies w (.slice fileSh) cs) : ∃ (A : Option Addr) (len cap : Nat) (fs : List LF), cs = [.slice A len cap] ∧ len ≤ maxLen ∧ len ≤ cap ∧ fs.length = len ∧ Cells w w.heap.size A (fs.map LF.cells).flatten := by
  obtain ⟨A, len, cap, X, rfl, h1, h2, h3, h4, h5⟩ := h
  obtain ⟨fs, rfl⟩ := files_lie (fun x hx => (h4 x hx).2)
  exact ⟨A, len, cap, fs, rfl, h1, h2, by simpa using h3, h5⟩
theorem act_lies {w : World} {x : List Value} (h : Lies w actSh x) : ∃ a : LAct, x = a.cells ∧ a.In w w.heap.size := by
  obtain ⟨a, r1, rfl, _, _, ⟨k, rfl, _⟩, h1⟩ := h
  obtain ⟨b, r2, rfl, _, _, ⟨s, rfl, _⟩, h2⟩ := h1
  obtain ⟨c, r3, rfl, _, _, ⟨n, rfl, _⟩, h3⟩ := h2
  obtain ⟨d, r4, rfl, _, _, hd, h4⟩ := h3
  obtain ⟨A, len, cap, fs, rfl, _, _, e1, e2⟩ := files_in hd
  have h4' : r4 = [] := h4
  subst h4'
  exact ⟨⟨k, s, n, A, len, cap, fs⟩, rfl, e1, e2⟩
theorem acts_lie {w : World} {X : List (List Value)} (h : ∀ x ∈ X, Lies w actSh x) : ∃ fs : List LAct, X = fs.map LAct.cells ∧ ∀ a ∈ fs, a.In w w.heap.size := by
  induction X with
  | nil => exact ⟨[], rfl, fun a ha => by cases ha⟩
  | cons x l ih =>
    obtain ⟨f, rfl, hf⟩ := act_lies (h x (by simp))
    obtain ⟨fs, rfl, hfs⟩ := ih (fun y hy => h y (by simp [hy]))
    exact ⟨f :: fs, rfl, fun a ha => by
      rcases List.mem_cons.1 ha with rfl | ha
      · exact hf
      · exact hfs a ha⟩
/-- A slice of acts that came in. -/
theorem acts_in {w : World} {cs : List Value} (h : Lies w (.slice actSh) cs) : ∃ (A : Option Addr) (len cap : Nat) (fs : List LAct), cs = [.slice A len cap] ∧ len ≤ maxLen ∧ len ≤ cap ∧ fs.length = len ∧ Cells w w.heap.size A (fs.map LAct.cells).flatten ∧ ∀ a ∈ fs, a.In w w.heap.size := by
  obtain ⟨A, len, cap, X, rfl, h1, h2, h3, h4, h5⟩ := h
  obtain ⟨fs, rfl, h6⟩ := acts_lie (fun x hx => (h4 x hx).2)
  exact ⟨A, len, cap, fs, rfl, h1, h2, by simpa using h3, h5, h6⟩
end Go.Proofs.Ytkggobndofjclaa
