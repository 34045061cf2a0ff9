/- The contracts of layer 2's reader. -/
import Derived.Test.YtlbjamnbbkaooaaFieldPut
import Derived.Deep.QuietTactic
import Derived.BigQuiet
import Derived.Deep.RegionWith
import Derived.Deep.DrawnRows
namespace Go.Proofs.Ytlbjamnbbkaooaa
open Go.RowKit FieldP
attribute [local go_sem ↓] Go.wp_at_zero Go.wp_at_succ

/-- A reader lies at block g: its bytes' slice, its place, whether it isn't fine. -/
def Rd (w : World) (g : Nat) (A : Option Addr) (l c : Nat) (p : Int) (bad : Bool) : Prop := w.heap[g]? = some (.cells #[.slice A l c, .int .i64 p, .bool bad] 67 (0, 0))
theorem Rd.cells {w : World} {g : Nat} {A : Option Addr} {l c : Nat} {p : Int} {bad : Bool} (h : Rd w g A l c p bad) :
    w.cell? ⟨g, 0, none⟩ = some (.slice A l c) ∧ w.cell? ⟨g, 1, none⟩ = some (.int .i64 p) ∧ w.cell? ⟨g, 2, none⟩ = some (.bool bad) ∧ w.frozen? ⟨g, 1, none⟩ = false ∧ w.frozen? ⟨g, 2, none⟩ = false :=
  ⟨cell_of_row w g 0 _ _ _ h, cell_of_row w g 1 _ _ _ h, cell_of_row w g 2 _ _ _ h, frozen_of_row w g 1 _ _ h, frozen_of_row w g 2 _ _ h⟩
theorem Rd.setAt {w : World} {g : Nat} {A : Option Addr} {l c : Nat} {p : Int} {bad : Bool} (h : Rd w g A l c p bad) (q : Int) : Rd (w.setCell ⟨g, 1, none⟩ (.int .i64 q)) g A l c q bad := heap_setCell_same w g 1 _ _ _ h
theorem Rd.setBad {w : World} {g : Nat} {A : Option Addr} {l c : Nat} {p : Int} {bad : Bool} (h : Rd w g A l c p bad) : Rd (w.setCell ⟨g, 2, none⟩ (.bool true)) g A l c p true := heap_setCell_same w g 2 _ _ _ h
theorem Rd.below {w w' : World} {g : Nat} {A : Option Addr} {l c : Nat} {p : Int} {bad : Bool} {B : Nat} (h : Rd w g A l c p bad) (hb : Below B w w') (hg : g < B) : Rd w' g A l c p bad := (hb.block g hg).trans h
theorem Rd.lt {w : World} {g : Nat} {A : Option Addr} {l c : Nat} {p : Int} {bad : Bool} (h : Rd w g A l c p bad) : g < w.heap.size := (Array.getElem?_eq_some_iff.1 h).1

/-- Only block g was written, and blocks were made. -/
def Only (g : Nat) (w w' : World) : Prop := w.grownBy w' (some g)
theorem only_refl (g : Nat) (w : World) : Only g w w := World.grownBy.refl _ _
theorem only_drewN {g : Nat} {w w' : World} (h : Only g w w') (n : Nat) : Only g w (w'.drewN n) := ⟨h.os, h.tape, h.output, h.size, h.block⟩
theorem only_set {g : Nat} {w w' : World} (h : Only g w w') (i : Nat) (v : Value) : Only g w (w'.setCell ⟨g, i, none⟩ v) :=
  ⟨h.os, h.tape, h.output, by simpa [World.setCell] using h.size, fun k hk hne => (Below.heap_setCell w' _ v k (fun e => hne (by rw [e]))).trans (h.block k hk hne)⟩
theorem only_alloc {g : Nat} {w w' : World} (h : Only g w w') (o : Obj) : Only g w (w'.alloc o) :=
  ⟨h.os, h.tape, h.output, Nat.le_trans h.size (by simp), fun k hk hne => (Below.heap_alloc w' o k (Nat.lt_of_lt_of_le hk h.size)).trans (h.block k hk hne)⟩
theorem only_trans {g : Nat} {a b c : World} (h : Only g a b) (k : Only g b c) : Only g a c := World.grownBy.trans h k
theorem only_below {g B : Nat} {W w w' : World} (h : Only g w w') (hb : Below B W w) (hB : B ≤ w.heap.size) (hg : B ≤ g) : Below B W w' := hb.grown h hB (fun k hk => by injection hk; omega)
theorem Cells.only {g B : Nat} {w w' : World} {A : Option Addr} {xs : List Value} (h : Cells w B A xs) (ho : Only g w w') (hB : B ≤ w.heap.size) (hg : B ≤ g) : Cells w' B A xs :=
  h.below (only_below ho (Below.refl B w) hB hg) (Nat.le_refl _)

theorem quiet_left {P : Program} {f : FuncId} {args : Array Value} {w : World} {n : Nat} {v : Value}
    (h : Calls P f args (w.drewN n) fun e w' => e = .returned v ∧ w.drewN n = w') : Calls P f args (w.drewN n) fun e w'' => e = .returned v ∧ ∃ m, w'' = w.drewN m :=
  h.mono fun _ _ ⟨he, hm⟩ => ⟨he, n, hm.symm⟩
theorem Cells.drewN {w : World} {B : Nat} {A : Option Addr} {xs : List Value} (h : Cells w B A xs) (n : Nat) : Cells (w.drewN n) B A xs := h
theorem Rd.drewN {w : World} {g : Nat} {A : Option Addr} {l c : Nat} {p : Int} {bad : Bool} (h : Rd w g A l c p bad) (n : Nat) : Rd (w.drewN n) g A l c p bad := h

theorem new_any (A : Option Addr) (l c : Nat) (w : World) :
    Calls Try.prog 16 #[.slice A l c] w fun e w' => e = .returned (.pointer (some ⟨w.heap.size, 0, none⟩)) ∧ w.alloc (.cells #[.slice A l c, .int .i64 0, .bool false] 67) = w' := by
  go_enter Try.func16, Try.ntmps16
  go_wp2
  go_ret
  exact ⟨rfl, rfl⟩
theorem rd_new (A : Option Addr) (l c : Nat) (w : World) : Rd (w.alloc (.cells #[.slice A l c, .int .i64 0, .bool false] 67)) w.heap.size A l c 0 false := heap_alloc_new w _

set_option maxHeartbeats 400000 in
theorem ok_any (g : Nat) (A : Option Addr) (l c : Nat) (p : Int) (bad : Bool) (w : World) (h : Rd w g A l c p bad) :
    Calls Try.prog 19 #[.pointer (some ⟨g, 0, none⟩)] w fun e w' => e = .returned (.bool !bad) ∧ w = w' := by
  obtain ⟨c0, c1, c2, f1, f2⟩ := h.cells
  clear h
  go_enter Try.func19, Try.ntmps19
  go_wp2
  go_ret
  exact ⟨rfl, rfl⟩

set_option maxHeartbeats 400000 in
theorem left_any (g : Nat) (A : Option Addr) (l c : Nat) (p : Int) (bad : Bool) (w : World) (h : Rd w g A l c p bad) (hl : l ≤ 9223372036854775807) (h0 : 0 ≤ p) (h1 : p ≤ l) :
    Calls Try.prog 20 #[.pointer (some ⟨g, 0, none⟩)] w fun e w' => e = .returned (.int .i64 (l - p)) ∧ ∃ n, w' = w.drewN n := by
  obtain ⟨c0, c1, c2, f1, f2⟩ := h.cells
  clear h
  have hw : IntKind.i64.wrap ((l : Int) - p) = l - p := IntWalk.i64_in _ (by omega)
  go_enter Try.func20, Try.ntmps20
  go_wp2
  go_quiet (fail)
  go_wp2
  go_ret
  exact ⟨rfl, _, rfl⟩

set_option maxHeartbeats 400000 in
theorem seek_any (g : Nat) (A : Option Addr) (l c : Nat) (p a : Int) (w : World) (h : Rd w g A l c p false) (h0 : 0 ≤ a) (h1 : a ≤ l) :
    Calls Try.prog 17 #[.pointer (some ⟨g, 0, none⟩), .int .i64 a] w fun e w' => e = .returned (.tuple #[]) ∧ Rd w' g A l c a false ∧ Only g w w' := by
  have H := Lib.hid h
  obtain ⟨c0, c1, c2, f1, f2⟩ := h.cells
  clear h
  go_enter Try.func17, Try.ntmps17
  go_wp2
  go_end0
  exact ⟨rfl, H.out.setAt a, only_set (only_refl _ _) _ _⟩

/-- Of a reader that isn't fine no number is read. -/
theorem number_bad (g : Nat) (A : Option Addr) (l c : Nat) (p b : Int) (w : World) (h : Rd w g A l c p true) :
    Calls Try.prog 18 #[.pointer (some ⟨g, 0, none⟩), .int .i64 b] w fun e w' => e = .returned (.int .u32 0) ∧ w = w' := by
  have HOK := Lib.hid (ok_any g A l c p true w h)
  clear h
  go_enter Try.func18, Try.ntmps18
  go_wp2_with (go_at_call 19; refine HOK.out.mono ?_; rintro e w' ⟨rfl, rfl⟩)
  go_ret
  exact ⟨rfl, rfl⟩
/-- Of a reader that isn't fine no bytes are read. -/
theorem bytes_bad (g : Nat) (A : Option Addr) (l c : Nat) (p b : Int) (w : World) (h : Rd w g A l c p true) :
    Calls Try.prog 21 #[.pointer (some ⟨g, 0, none⟩), .int .i64 b] w fun e w' => e = .returned (.slice none 0 0) ∧ w = w' := by
  have HOK := Lib.hid (ok_any g A l c p true w h)
  clear h
  go_enter Try.func21, Try.ntmps21
  go_wp2_with (go_at_call 19; refine HOK.out.mono ?_; rintro e w' ⟨rfl, rfl⟩)
  go_ret
  exact ⟨rfl, rfl⟩
/-- Fewer than no bytes: the reader isn't fine any more. -/
theorem bytes_neg (g : Nat) (A : Option Addr) (l c : Nat) (p b : Int) (w : World) (h : Rd w g A l c p false) (hb : b < 0) :
    Calls Try.prog 21 #[.pointer (some ⟨g, 0, none⟩), .int .i64 b] w fun e w' => e = .returned (.slice none 0 0) ∧ Rd w' g A l c p true ∧ Only g w w' := by
  have H := Lib.hid h
  have HOK := Lib.hid (ok_any g A l c p false w h)
  obtain ⟨c0, c1, c2, f1, f2⟩ := h.cells
  clear h
  go_enter Try.func21, Try.ntmps21
  go_wp2_with (go_at_call 19; refine HOK.out.mono ?_; rintro e w' ⟨rfl, rfl⟩)
  go_ret
  exact ⟨rfl, H.out.setBad, only_set (only_refl _ _) _ _⟩

set_option maxRecDepth 100000 in
set_option maxHeartbeats 1000000 in
/-- A number that is there is read. -/
theorem number_any (g : Nat) (A : Option Addr) (l c : Nat) (bs : List UInt8) (B : Nat) (p b : Int) (x : Nat) (w : World) (h : Rd w g A l c p false) (hl : bs.length = l) (hm : l ≤ 1099511627776)
    (p0 : 0 ≤ p) (p1 : p ≤ l) (b0 : -9223372036854775808 ≤ b) (b1 : b ≤ 9223372036854775807) (hb : Bytes w B A bs) (hx : getN bs p (cnt b) = some x) :
    Calls Try.prog 18 #[.pointer (some ⟨g, 0, none⟩), .int .i64 b] w fun e w' => e = .returned (.int .u32 (x : Int)) ∧ Rd w' g A l c (p + (cnt b : Nat)) false ∧ Only g w w' := by
  have H := Lib.hid h
  have HOK := Lib.hid (ok_any g A l c p false w h)
  have HGET := Lib.hid (fun n => get_any A l c bs B p b (w.drewN n) hl (by omega) (by omega) (by omega) b0 b1 (hb.drewN n))
  have HCNT := Lib.hid (fun W => count_any b W b0 b1)
  have hc4 := cnt_le b
  obtain ⟨c0, c1, c2, f1, f2⟩ := h.cells
  simp only [hx, orZero] at HGET
  clear h hx hl hb b0 b1
  generalize cnt b = q at *
  have hw : IntKind.i64.wrap (p + (q : Int)) = p + q := IntWalk.i64_in _ (by omega)
  go_enter Try.func18, Try.ntmps18
  go_wp2_with (go_at_call 19; refine HOK.out.mono ?_; rintro e w' ⟨rfl, rfl⟩)
  go_quiet ((go_at_call 14; exact quiet_left (HGET.out _)))
  have H1 := Lib.hid (H.out.drewN nq)
  have HO := Lib.hid (only_drewN (only_refl g w) nq)
  obtain ⟨c0, c1, c2, f1, f2⟩ := H1.out.cells
  generalize w.drewN nq = w1 at *
  go_wp2
  go_region_with (go_at_call 40; refine (HCNT.out _).mono ?_; rintro e w' ⟨rfl, rfl⟩)
  all_goals
    go_wp2
    go_ret
    exact ⟨rfl, (H1.out.drewN 1).setAt _, only_set (only_drewN HO.out 1) _ _⟩
end Go.Proofs.Ytlbjamnbbkaooaa
