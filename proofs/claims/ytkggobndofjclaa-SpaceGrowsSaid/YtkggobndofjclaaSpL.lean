/- Layer 26: the ledger: what its calls add. -/
import Derived.Test.YtkggobndofjclaaSp
import Derived.Test.YtkggobndofjclaaTail
namespace Go.Proofs.Ytkggobndofjclaa
open Go.RowKit
attribute [local go_sem ↓] Go.wp_at_zero Go.wp_at_succ

def intC (n : Nat) : Value := .int .i64 (n : Int)
theorem sum_take_le (xs : List Nat) (k : Nat) : (xs.take k).sum ≤ xs.sum := by
  have := congrArg List.sum (List.take_append_drop k xs)
  rw [List.sum_append] at this
  omega
theorem sum_take_succ {xs : List Nat} {k x : Nat} (h : xs[k]? = some x) : (xs.take (k + 1)).sum = (xs.take k).sum + x := by
  rw [List.take_add_one, h, List.sum_append]
  simp
set_option maxHeartbeats 400000 in
theorem sum26_any (A : Option Addr) (l c : Nat) (xs : List Nat) (B : Nat) (w : World) (hl : xs.length = l) (hm : l ≤ 1000) (hs : xs.sum ≤ 1152921504606846976) (hb : Cells w B A (xs.map intC)) :
    Calls Try.prog 26 #[.slice A l c] w fun e w' => e = .returned (.int .i64 (xs.sum : Nat)) ∧ w = w' := by
  have HC := Lib.hid hb
  have HSM := Lib.hid (sum_take_le xs)
  clear hb
  go_enter Try.func26, Try.ntmps26
  go_wp2
  go_loopg [3, 5, 8] l (fun gk v _ i wr => ∃ k : Nat, k + gk = l ∧ i = .int .i64 k ∧ v = .int .i64 ((xs.take k).sum : Nat) ∧ wr = w)
  case atStart => exact ⟨0, by omega, rfl, rfl, rfl⟩
  case round =>
    obtain ⟨k, hk, rfl, rfl, rfl⟩ := hrel
    by_cases h : k < l
    · obtain ⟨x, hx⟩ : ∃ x, xs[k]? = some x := ⟨_, List.getElem?_eq_getElem (by omega)⟩
      obtain ⟨g, o, rfl, _, hc⟩ := HC.out (by rw [List.length_map]; omega)
      have c0 : wr.cell? ⟨g, o + k, none⟩ = some (.int .i64 (x : Int)) := hc k _ (by rw [List.getElem?_map, hx]; rfl)
      have HS1 := Lib.hid (sum_take_succ hx)
      have h1 := HSM.out k
      have h2 := HSM.out (k + 1)
      rw [HS1.out] at h2
      have HK : Hid (((xs.take (k + 1)).sum : Int) = ((xs.take k).sum : Int) + x) := by show _ = _; rw [HS1.out]; omega
      clear hc hx
      go_wp2
      go_roundg (gk - 1)
      case measure => omega
      case rel => exact ⟨k + 1, by omega, by go_num, by rw [HS1.out]; go_num, rfl⟩
    · obtain rfl : k = l := by omega
      have HK : Hid ((xs.take k).sum = xs.sum) := by show _ = _; rw [List.take_of_length_le (by omega)]
      go_wp2
      go_ret
      exact ⟨by rw [← HK.out]; rfl, rfl⟩

theorem add_nil (A : Option Addr) (l c : Nat) (w : World) : Calls Try.prog 28 #[.pointer none, .slice A l c] w fun e w' => e = .returned (.tuple #[]) ∧ w = w' := by
  go_enter Try.func28, Try.ntmps28
  go_wp2
  go_end0
  exact ⟨rfl, rfl⟩
/-- The ledger of a block, by its number. -/
def Led (w : World) (g n : Nat) : Prop := Box w g #[.int .i64 (n : Int)] 28
theorem led_set {w : World} {g n : Nat} (h : Led w g n) (m : Nat) : Led (w.setCell ⟨g, 0, none⟩ (.int .i64 (m : Int))) g m := heap_setCell_same w g 0 _ _ _ h
set_option maxHeartbeats 400000 in
theorem add_any (g n : Nat) (A : Option Addr) (l c : Nat) (xs : List Nat) (B : Nat) (w : World) (hL : Led w g n) (hn : n ≤ 1152921504606846976) (hl : xs.length = l) (hm : l ≤ 1000) (hs : xs.sum ≤ 1152921504606846976) (hb : Cells w B A (xs.map intC)) :
    Calls Try.prog 28 #[.pointer (some ⟨g, 0, none⟩), .slice A l c] w fun e w' => e = .returned (.tuple #[]) ∧ Led w' g (n + xs.sum) ∧ Mod (oneB g) w w' := by
  have HS := Lib.hid (fun W (h : Cells W B A (xs.map intC)) => sum26_any A l c xs B W hl hm hs h)
  have HC := Lib.hid hb
  have HL := Lib.hid hL
  have c0 : w.cell? ⟨g, 0, none⟩ = some (.int .i64 (n : Int)) := hL.cell 0
  have f0 := frozen_of_row w g 0 _ _ hL
  have hg := hL.lt
  clear hb hL hl hm
  have hw : IntKind.i64.wrap ((n : Int) + (xs.sum : Nat)) = ((n + xs.sum : Nat) : Int) := by rw [wrap26 _ (by omega) (by omega)]; omega
  generalize xs.sum = m at *
  go_enter Try.func28, Try.ntmps28
  go_wp2
  go_region_with (first
    | (go_at_call 26; refine (HS.out w.drew HC.out.drew).mono ?_; rintro e w' ⟨rfl, rfl⟩))
  all_goals
    go_end0
    exact ⟨rfl, led_set HL.out _, (Mod.refl (oneB g) w).drew.set ⟨g, 0, none⟩ _ (.inl rfl)⟩

set_option maxHeartbeats 400000 in
theorem right26_any (n : Int) (w : World) : Calls Try.prog 29 #[.int .i64 n] w fun e w' => e = .returned (.int .i64 (cutC n : Nat)) ∧ w = w' := by
  have HC : Hid (cutC n = if n < 0 then 0 else if 65536 < n then 65536 else n.toNat) := rfl
  generalize cutC n = q at *
  by_cases h0 : n < 0
  · have HQ : Hid ((q : Int) = 0) := by show _ = _; rw [HC.out, if_pos h0]; rfl
    clear HC
    go_enter Try.func29, Try.ntmps29
    go_wp2
    go_ret
    exact ⟨by rw [HQ.out]; rfl, rfl⟩
  by_cases h1 : 65536 < n
  · have HQ : Hid ((q : Int) = 65536) := by show _ = _; rw [HC.out, if_neg h0, if_pos h1]; rfl
    clear HC
    go_enter Try.func29, Try.ntmps29
    go_wp2
    go_ret
    exact ⟨by rw [HQ.out]; rfl, rfl⟩
  · have HQ : Hid ((q : Int) = n) := by show _ = _; rw [HC.out, if_neg h0, if_neg h1]; omega
    clear HC
    go_enter Try.func29, Try.ntmps29
    go_wp2
    go_ret
    exact ⟨by rw [HQ.out]; rfl, rfl⟩

theorem Cells.of_box {w : World} {b : Nat} {cs : Array Value} {t : TypeId} {xs : List Nat} (e : cs.toList = xs.map intC) (h : w.heap[b]? = some (.cells cs t (0, 0))) : Cells w (b + 1) (some ⟨b, 0, none⟩) (xs.map intC) := fun _ => by
  refine ⟨b, 0, rfl, by omega, fun j u hj => ?_⟩
  rw [Nat.zero_add, cell_of_row w b j _ _ _ h, ← Array.getElem?_toList, e]
  exact hj

set_option maxHeartbeats 800000 in
theorem put26_any (g n : Nat) (s : ByteArray) (z : Int) (w : World) (hL : Led w g n) (hn : n ≤ 1152921504606846976) (hs : s.size ≤ 1099511627776) :
    Calls Try.prog 19 #[.pointer (some ⟨g, 0, none⟩), .string s, .int .i64 z] w fun e w' => e = .returned (.tuple #[]) ∧ Led w' g (n + (22 + s.size + cutC z)) ∧ Mod (oneB g) w w' := by
  have hq := cutC_le z
  have HR := Lib.hid (right26_any z w)
  generalize cutC z = q at *
  have HSUM : Hid ([22, s.size, q].sum = 22 + s.size + q) := by show _ = _; simp [List.sum_cons]; try omega
  have HCE : Hid (Cells (w.alloc (.cells #[.int .i64 22, .int .i64 (s.size : Int), .int .i64 (q : Int)] 3)) (w.heap.size + 1) (some ⟨w.heap.size, 0, none⟩) ([22, s.size, q].map intC)) := Cells.of_box rfl (heap_alloc_new w _)
  have HA := Lib.hid (add_any g n (some ⟨w.heap.size, 0, none⟩) 3 3 [22, s.size, q] (w.heap.size + 1) _ (hL.alloc (.cells #[.int .i64 22, .int .i64 (s.size : Int), .int .i64 (q : Int)] 3)) hn rfl (by omega) (by rw [HSUM.out]; omega) HCE.out)
  rw [HSUM.out] at HA
  have hg := hL.lt
  clear HSUM HCE hL
  go_enter Try.func19, Try.ntmps19
  go_wp2_with (first
    | (go_at_call 28; refine HA.out.mono ?_; rintro e w1 ⟨rfl, h1, h2⟩; have H1 := Lib.hid h1; have H2 := Lib.hid h2; clear h1 h2)
    | (go_at_call 29; refine HR.out.mono ?_; rintro e w9 ⟨rfl, rfl⟩))
  go_end0
  exact ⟨rfl, H1.out, ((Mod.refl (oneB g) w).alloc _).then_ H2.out⟩
set_option maxHeartbeats 800000 in
theorem put26_nil (s : ByteArray) (z : Int) (w : World) :
    Calls Try.prog 19 #[.pointer none, .string s, .int .i64 z] w fun e w' => e = .returned (.tuple #[]) ∧ Below w.heap.size w w' := by
  have hq := cutC_le z
  have HR := Lib.hid (right26_any z w)
  generalize cutC z = q at *
  go_enter Try.func19, Try.ntmps19
  go_wp2_with (first
    | (go_at_call 28; refine (add_nil _ _ _ _).mono ?_; rintro e w1 ⟨rfl, rfl⟩)
    | (go_at_call 29; refine HR.out.mono ?_; rintro e w9 ⟨rfl, rfl⟩))
  go_end0
  exact ⟨rfl, (Below.refl _ _).alloc (Nat.le_refl _) _⟩

set_option maxHeartbeats 800000 in
theorem delete26_any (g n : Nat) (s : ByteArray) (w : World) (hL : Led w g n) (hn : n ≤ 1152921504606846976) (hs : s.size ≤ 1099511627776) :
    Calls Try.prog 20 #[.pointer (some ⟨g, 0, none⟩), .string s] w fun e w' => e = .returned (.tuple #[]) ∧ Led w' g (n + (22 + s.size)) ∧ Mod (oneB g) w w' := by
  have HSUM : Hid ([22, s.size].sum = 22 + s.size) := by show _ = _; simp [List.sum_cons]; try omega
  have HCE : Hid (Cells (w.alloc (.cells #[.int .i64 22, .int .i64 (s.size : Int)] 3)) (w.heap.size + 1) (some ⟨w.heap.size, 0, none⟩) ([22, s.size].map intC)) := Cells.of_box rfl (heap_alloc_new w _)
  have HA := Lib.hid (add_any g n (some ⟨w.heap.size, 0, none⟩) 2 2 [22, s.size] (w.heap.size + 1) _ (hL.alloc (.cells #[.int .i64 22, .int .i64 (s.size : Int)] 3)) hn rfl (by omega) (by rw [HSUM.out]; omega) HCE.out)
  rw [HSUM.out] at HA
  have hg := hL.lt
  clear HSUM HCE hL
  go_enter Try.func20, Try.ntmps20
  go_wp2_with (first
    | (go_at_call 28; refine HA.out.mono ?_; rintro e w1 ⟨rfl, h1, h2⟩; have H1 := Lib.hid h1; have H2 := Lib.hid h2; clear h1 h2))
  go_end0
  exact ⟨rfl, H1.out, ((Mod.refl (oneB g) w).alloc _).then_ H2.out⟩
set_option maxHeartbeats 800000 in
theorem delete26_nil (s : ByteArray) (w : World) :
    Calls Try.prog 20 #[.pointer none, .string s] w fun e w' => e = .returned (.tuple #[]) ∧ Below w.heap.size w w' := by
  go_enter Try.func20, Try.ntmps20
  go_wp2_with (first
    | (go_at_call 28; refine (add_nil _ _ _ _).mono ?_; rintro e w1 ⟨rfl, rfl⟩))
  go_end0
  exact ⟨rfl, (Below.refl _ _).alloc (Nat.le_refl _) _⟩

set_option maxHeartbeats 800000 in
theorem stream26_any (g n : Nat) (s : ByteArray) (w : World) (hL : Led w g n) (hn : n ≤ 1152921504606846976) (hs : s.size ≤ 1099511627776) :
    Calls Try.prog 21 #[.pointer (some ⟨g, 0, none⟩), .string s] w fun e w' => e = .returned (.tuple #[]) ∧ Led w' g (n + (22 + 22 + s.size)) ∧ Mod (oneB g) w w' := by
  have HSUM : Hid ([22, 22, s.size].sum = 22 + 22 + s.size) := by show _ = _; simp [List.sum_cons]; try omega
  have HCE : Hid (Cells (w.alloc (.cells #[.int .i64 22, .int .i64 22, .int .i64 (s.size : Int)] 3)) (w.heap.size + 1) (some ⟨w.heap.size, 0, none⟩) ([22, 22, s.size].map intC)) := Cells.of_box rfl (heap_alloc_new w _)
  have HA := Lib.hid (add_any g n (some ⟨w.heap.size, 0, none⟩) 3 3 [22, 22, s.size] (w.heap.size + 1) _ (hL.alloc (.cells #[.int .i64 22, .int .i64 22, .int .i64 (s.size : Int)] 3)) hn rfl (by omega) (by rw [HSUM.out]; omega) HCE.out)
  rw [HSUM.out] at HA
  have hg := hL.lt
  clear HSUM HCE hL
  go_enter Try.func21, Try.ntmps21
  go_wp2_with (first
    | (go_at_call 28; refine HA.out.mono ?_; rintro e w1 ⟨rfl, h1, h2⟩; have H1 := Lib.hid h1; have H2 := Lib.hid h2; clear h1 h2))
  go_end0
  exact ⟨rfl, H1.out, ((Mod.refl (oneB g) w).alloc _).then_ H2.out⟩
set_option maxHeartbeats 800000 in
theorem stream26_nil (s : ByteArray) (w : World) :
    Calls Try.prog 21 #[.pointer none, .string s] w fun e w' => e = .returned (.tuple #[]) ∧ Below w.heap.size w w' := by
  go_enter Try.func21, Try.ntmps21
  go_wp2_with (first
    | (go_at_call 28; refine (add_nil _ _ _ _).mono ?_; rintro e w1 ⟨rfl, rfl⟩))
  go_end0
  exact ⟨rfl, (Below.refl _ _).alloc (Nat.le_refl _) _⟩

set_option maxHeartbeats 800000 in
theorem more26_any (g n : Nat) (z : Int) (w : World) (hL : Led w g n) (hn : n ≤ 1152921504606846976)  :
    Calls Try.prog 22 #[.pointer (some ⟨g, 0, none⟩), .int .i64 z] w fun e w' => e = .returned (.tuple #[]) ∧ Led w' g (n + (cutC z + 2 * partsC (cutC z) 65535)) ∧ Mod (oneB g) w w' := by
  have hq := cutC_le z
  have HR := Lib.hid (right26_any z w)
  generalize cutC z = q at *
  have HPI := Lib.hid (pieces_nat q w (by omega))
  have hpp := partsC_le q 65535 (by omega)
  have hw2 : IntKind.i64.wrap (2 * ((partsC q 65535 : Nat) : Int)) = ((2 * partsC q 65535 : Nat) : Int) := by rw [wrap26 _ (by omega) (by omega)]; omega
  have HSUM : Hid ([q, 2 * partsC q 65535].sum = q + 2 * partsC q 65535) := by show _ = _; simp [List.sum_cons]; try omega
  have HCE : Hid (Cells (w.alloc (.cells #[.int .i64 (q : Int), .int .i64 (2 * partsC q 65535 : Nat)] 3)) (w.heap.size + 1) (some ⟨w.heap.size, 0, none⟩) ([q, 2 * partsC q 65535].map intC)) := Cells.of_box rfl (heap_alloc_new w _)
  have HA := Lib.hid (add_any g n (some ⟨w.heap.size, 0, none⟩) 2 2 [q, 2 * partsC q 65535] (w.heap.size + 1) _ (hL.alloc (.cells #[.int .i64 (q : Int), .int .i64 (2 * partsC q 65535 : Nat)] 3)) hn rfl (by omega) (by rw [HSUM.out]; omega) HCE.out)
  rw [HSUM.out] at HA
  have hg := hL.lt
  clear HSUM HCE hL
  go_enter Try.func22, Try.ntmps22
  go_wp2_with (first
    | (go_at_call 28; refine HA.out.mono ?_; rintro e w1 ⟨rfl, h1, h2⟩; have H1 := Lib.hid h1; have H2 := Lib.hid h2; clear h1 h2)
    | (go_at_call 29; refine HR.out.mono ?_; rintro e w9 ⟨rfl, rfl⟩)
    | (go_at_call 15; refine HPI.out.mono ?_; rintro e w9 ⟨rfl, rfl⟩))
  go_end0
  exact ⟨rfl, H1.out, ((Mod.refl (oneB g) w).alloc _).then_ H2.out⟩
set_option maxHeartbeats 800000 in
theorem more26_nil (z : Int) (w : World) :
    Calls Try.prog 22 #[.pointer none, .int .i64 z] w fun e w' => e = .returned (.tuple #[]) ∧ Below w.heap.size w w' := by
  have hq := cutC_le z
  have HR := Lib.hid (right26_any z w)
  generalize cutC z = q at *
  have HPI := Lib.hid (pieces_nat q w (by omega))
  have hpp := partsC_le q 65535 (by omega)
  have hw2 : IntKind.i64.wrap (2 * ((partsC q 65535 : Nat) : Int)) = ((2 * partsC q 65535 : Nat) : Int) := by rw [wrap26 _ (by omega) (by omega)]; omega
  go_enter Try.func22, Try.ntmps22
  go_wp2_with (first
    | (go_at_call 28; refine (add_nil _ _ _ _).mono ?_; rintro e w1 ⟨rfl, rfl⟩)
    | (go_at_call 29; refine HR.out.mono ?_; rintro e w9 ⟨rfl, rfl⟩)
    | (go_at_call 15; refine HPI.out.mono ?_; rintro e w9 ⟨rfl, rfl⟩))
  go_end0
  exact ⟨rfl, (Below.refl _ _).alloc (Nat.le_refl _) _⟩

theorem issued_nil (w : World) : Calls Try.prog 11 #[.pointer none] w fun e w' => e = .returned (.int .i64 0) ∧ w = w' := by
  go_enter Try.func11, Try.ntmps11
  go_wp2
  go_ret
  exact ⟨rfl, rfl⟩
theorem issued_any (g n : Nat) (w : World) (hL : Led w g n) : Calls Try.prog 11 #[.pointer (some ⟨g, 0, none⟩)] w fun e w' => e = .returned (.int .i64 (n : Int)) ∧ w = w' := by
  have c0 : w.cell? ⟨g, 0, none⟩ = some (.int .i64 (n : Int)) := hL.cell 0
  have hg := hL.lt
  clear hL
  go_enter Try.func11, Try.ntmps11
  go_wp2
  go_ret
  exact ⟨rfl, rfl⟩

/-- A file in memory: its name, and where its data lies. -/
structure LF where
  s : ByteArray
  A : Option Addr
  len : Nat
  cap : Nat
def LF.cells (f : LF) : List Value := [.string f.s, .slice f.A f.len f.cap]
/-- Their rows in the directory. -/
def rowsC (fs : List LF) : Nat := (fs.map fun f => 18 + f.s.size).sum
def boundC (n : Nat) (fs : List LF) : Nat := 1044 + n + rowsC fs
theorem files_at {fs : List LF} {k : Nat} {f : LF} (h : fs[k]? = some f) : (fs.map LF.cells).flatten[k * 2]? = some (.string f.s) ∧ (fs.map LF.cells).flatten[k * 2 + 1]? = some (.slice f.A f.len f.cap) := by
  have hX : ∀ x ∈ fs.map LF.cells, x.length = 2 := fun x hx => by
    obtain ⟨f, _, rfl⟩ := List.mem_map.1 hx
    rfl
  have hk : (fs.map LF.cells)[k]? = some f.cells := by rw [List.getElem?_map, h]; rfl
  exact ⟨flatten_at (s := 2) (r := 0) hX hk rfl, flatten_at (s := 2) (r := 1) hX hk rfl⟩
theorem files_len (fs : List LF) : (fs.map LF.cells).flatten.length = fs.length * 2 := by
  induction fs with
  | nil => rfl
  | cons f l ih => rw [List.map_cons, List.flatten_cons, List.length_append, ih, List.length_cons]; show 2 + _ = _; omega
theorem rowsC_take_succ {fs : List LF} {k : Nat} {f : LF} (h : fs[k]? = some f) : rowsC (fs.take (k + 1)) = rowsC (fs.take k) + (18 + f.s.size) := by
  unfold rowsC
  rw [List.map_take, List.map_take]
  exact sum_take_succ (by rw [List.getElem?_map, h]; rfl)
theorem rowsC_take_le (fs : List LF) (k : Nat) : rowsC (fs.take k) ≤ rowsC fs := by
  unfold rowsC
  rw [List.map_take]
  exact sum_take_le _ _

set_option maxHeartbeats 400000 in
theorem bound_nil (A : Option Addr) (l c : Nat) (w : World) : Calls Try.prog 12 #[.pointer none, .slice A l c] w fun e w' => e = .returned (.int .i64 0) ∧ w = w' := by
  go_enter Try.func12, Try.ntmps12
  go_wp2
  go_ret
  exact ⟨rfl, rfl⟩
set_option maxHeartbeats 400000 in
theorem vacuum_nil (A : Option Addr) (l c : Nat) (w : World) : Calls Try.prog 23 #[.pointer none, .slice A l c] w fun e w' => e = .returned (.tuple #[]) ∧ w = w' := by
  go_enter Try.func23, Try.ntmps23
  go_wp2
  (try simp only [Exit.inBlock, Exit.then]); refine bodyPost_ret (results_none rfl _ _ _) rfl ?_
  exact ⟨rfl, rfl⟩
set_option maxHeartbeats 1000000 in
theorem bound_any (g n : Nat) (A : Option Addr) (l c : Nat) (fs : List LF) (B : Nat) (w : World) (hL : Led w g n) (hn : n ≤ 576460752303423488) (hl : fs.length = l) (hm : l ≤ 1099511627776) (hr : rowsC fs ≤ 1099511627776) (hb : Cells w B A (fs.map LF.cells).flatten) (hB : B ≤ w.heap.size) :
    Calls Try.prog 12 #[.pointer (some ⟨g, 0, none⟩), .slice A l c] w fun e w' => e = .returned (.int .i64 (boundC n fs : Nat)) ∧ Below w.heap.size w w' := by
  have HC := Lib.hid hb
  have HL := Lib.hid hL
  have HSM := Lib.hid (rowsC_take_le fs)
  have HFL := Lib.hid (files_len fs)
  have HBO : Hid (boundC n fs = 1044 + n + rowsC fs) := rfl
  have hg := hL.lt
  clear hb hL
  generalize boundC n fs = bo at *
  go_enter Try.func12, Try.ntmps12
  go_wp2
  go_loopg [5, 7, 12] l (fun gk v _ i wr => ∃ k : Nat, k + gk = l ∧ i = .int .i64 k ∧ v = .int .i64 (rowsC (fs.take k) : Nat) ∧ Below w.heap.size w wr)
  case atStart => exact ⟨0, by omega, rfl, rfl, Below.refl _ _⟩
  case round =>
    obtain ⟨k, hk, rfl, rfl, hbel⟩ := hrel
    have HBL := Lib.hid hbel
    clear hbel
    by_cases h : k < l
    · obtain ⟨f, hx⟩ : ∃ x, fs[k]? = some x := ⟨_, List.getElem?_eq_getElem (by omega)⟩
      obtain ⟨b, o, rfl, hbB, hc⟩ := HC.out (by rw [HFL.out]; omega)
      have HF := Lib.hid (files_at hx)
      have c0 : wr.cell? ⟨b, o + k * 2, none⟩ = some (.string f.s) := (HBL.out.cell (show b < w.heap.size by omega)).trans (hc _ _ HF.out.1)
      have c1 : wr.cell? ⟨b, o + k * 2 + 1, none⟩ = some (.slice f.A f.len f.cap) := (HBL.out.cell (show b < w.heap.size by omega)).trans (by rw [Nat.add_assoc]; exact hc _ _ HF.out.2)
      have HS1 := Lib.hid (rowsC_take_succ hx)
      have h1 := HSM.out k
      have h2 := HSM.out (k + 1)
      rw [HS1.out] at h2
      clear hc hx
      go_wp2
      go_roundg (gk - 1)
      case measure => omega
      case rel => exact ⟨k + 1, by omega, by go_num, by rw [HS1.out]; go_num, HBL.out.alloc HBL.out.size _⟩
    · obtain rfl : k = l := by omega
      have HK : Hid (rowsC (fs.take k) = rowsC fs) := by show _ = _; rw [List.take_of_length_le (by omega)]
      rw [HK.out]
      have HLW := Lib.hid (Box.below HL.out HBL.out hg)
      have c0 : wr.cell? ⟨g, 0, none⟩ = some (.int .i64 (n : Int)) := HLW.out.cell 0
      generalize rowsC fs = rr at *
      have HSUM : Hid ([1024, n, rr, 20].sum = bo) := by show _ = _; rw [HBO.out]; simp [List.sum_cons]; omega
      have HCE : Hid (Cells (wr.alloc (.cells #[.int .i64 1024, .int .i64 (n : Int), .int .i64 (rr : Int), .int .i64 20] 3)) (wr.heap.size + 1) (some ⟨wr.heap.size, 0, none⟩) ([1024, n, rr, 20].map intC)) := Cells.of_box rfl (heap_alloc_new wr _)
      have HA := Lib.hid (sum26_any (some ⟨wr.heap.size, 0, none⟩) 4 4 [1024, n, rr, 20] (wr.heap.size + 1) _ rfl (by omega) (by simp [List.sum_cons]; omega) HCE.out)
      rw [HSUM.out] at HA
      have hgw := HLW.out.lt
      clear HSUM HCE HC HK
      go_wp2_with (go_at_call 26; refine HA.out.mono ?_; rintro e w1 ⟨rfl, rfl⟩)
      go_ret
      exact ⟨rfl, HBL.out.alloc HBL.out.size _⟩

/-- What the records of files take. -/
def recsC (fs : List LF) : Nat := (fs.map fun f => 22 + f.s.size + cutC (f.len : Int)).sum
theorem recsC_take_succ {fs : List LF} {k : Nat} {f : LF} (h : fs[k]? = some f) : recsC (fs.take (k + 1)) = recsC (fs.take k) + (22 + f.s.size + cutC (f.len : Int)) := by
  unfold recsC
  rw [List.map_take, List.map_take]
  exact sum_take_succ (by rw [List.getElem?_map, h]; rfl)
theorem recsC_take_le (fs : List LF) (k : Nat) : recsC (fs.take k) ≤ recsC fs := by
  unfold recsC
  rw [List.map_take]
  exact sum_take_le _ _
theorem recsC_at {fs : List LF} {k : Nat} {f : LF} (h : fs[k]? = some f) : f.s.size ≤ recsC fs := by
  have := recsC_take_succ h
  have := recsC_take_le fs (k + 1)
  omega
set_option maxHeartbeats 1000000 in
theorem vacuum_any (g n : Nat) (A : Option Addr) (l c : Nat) (fs : List LF) (B : Nat) (w : World) (hL : Led w g n) (hl : fs.length = l) (hm : l ≤ 1099511627776) (hr : recsC fs ≤ 1099511627776) (hb : Cells w B A (fs.map LF.cells).flatten) (hB : B ≤ g) :
    Calls Try.prog 23 #[.pointer (some ⟨g, 0, none⟩), .slice A l c] w fun e w' => e = .returned (.tuple #[]) ∧ Led w' g (recsC fs) ∧ Mod (oneB g) w w' := by
  have HC := Lib.hid hb
  have HL := Lib.hid hL
  have HSM := Lib.hid (recsC_take_le fs)
  have HFL := Lib.hid (files_len fs)
  have hg := hL.lt
  have c0 : w.cell? ⟨g, 0, none⟩ = some (.int .i64 (n : Int)) := hL.cell 0
  have f0 := frozen_of_row w g 0 _ _ hL
  have HL0 := Lib.hid (led_set hL 0)
  clear hb hL
  go_enter Try.func23, Try.ntmps23
  go_wp2
  have HM0 := Lib.hid ((Mod.refl (oneB g) w).set ⟨g, 0, none⟩ (.int .i64 0) (.inl rfl))
  go_loopg [5, 13] l (fun gk _ i wr => ∃ k : Nat, k + gk = l ∧ i = .int .i64 k ∧ Led wr g (recsC (fs.take k)) ∧ Mod (oneB g) w wr)
  case atStart => exact ⟨0, by omega, rfl, HL0.out, HM0.out⟩
  case round =>
    obtain ⟨k, hk, rfl, hled, hmod⟩ := hrel
    have HLD := Lib.hid hled
    have HMD := Lib.hid hmod
    have hlt := hled.lt
    clear hled hmod
    by_cases h : k < l
    · obtain ⟨f, hx⟩ : ∃ x, fs[k]? = some x := ⟨_, List.getElem?_eq_getElem (by omega)⟩
      obtain ⟨b, o, rfl, hbB, hc⟩ := HC.out (by rw [HFL.out]; omega)
      have HF := Lib.hid (files_at hx)
      have hbl : Below B w wr := HMD.out.below (Below.refl _ _) (by omega) (fun k hk => by rw [show k = g from hk]; exact hB)
      have c0 : wr.cell? ⟨b, o + k * 2, none⟩ = some (.string f.s) := (hbl.cell (show b < B by omega)).trans (hc _ _ HF.out.1)
      have c1 : wr.cell? ⟨b, o + k * 2 + 1, none⟩ = some (.slice f.A f.len f.cap) := (hbl.cell (show b < B by omega)).trans (by rw [Nat.add_assoc]; exact hc _ _ HF.out.2)
      have HS1 := Lib.hid (recsC_take_succ hx)
      have h1 := HSM.out k
      have hsz := recsC_at hx
      clear hc hx hbl
      have HP := Lib.hid (put26_any g (recsC (fs.take k)) f.s (f.len : Int) _ (HLD.out.alloc (.cells #[.string f.s, .slice f.A f.len f.cap] 47)) (by omega) (by omega))
      rw [← HS1.out] at HP
      clear HL0 HM0 f0
      go_wp2_with (go_at_call 19; refine HP.out.mono ?_; rintro e w1 ⟨rfl, h1, h2⟩; have H1 := Lib.hid h1; have H2 := Lib.hid h2; clear h1 h2)
      go_roundg (gk - 1)
      case measure => omega
      case rel => exact ⟨k + 1, by omega, by go_num, H1.out, (HMD.out.alloc _).then_ H2.out⟩
    · obtain rfl : k = l := by omega
      have HK : Hid (recsC (fs.take k) = recsC fs) := by show _ = _; rw [List.take_of_length_le (by omega)]
      go_wp2
      go_end0
      exact ⟨rfl, by rw [← HK.out]; exact HLD.out, HMD.out⟩
end Go.Proofs.Ytkggobndofjclaa
