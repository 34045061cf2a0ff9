/- Layer 26: parts, sums of numbers, and the ledger by its number. -/
import Derived.Test.YtaknladkodibaaaGreatDoorRows
import Derived.Test.YtaknladkodibaaaGreatDoorMgQ12808
import Derived.Test.YtaknladkodibaaaGreatDoorMgQ12810
import Derived.WalkKit
import Derived.WalkSpells
import Derived.WalkLawsBesides
import Derived.Lib.Hide
import Derived.Deep.RegionHeld3
import Derived.Deep.DrawnRows
import Derived.Deep.LoopGhost
import Derived.StillTailTactics
import Derived.Deep.RegionLaw
import Derived.Test.YtaknladkodibaaaGreatDoorMgQ128STail
namespace Go.Proofs.YtaknladkodibaaaGreatDoor
open Go.RowKit
attribute [local go_sem ↓] Go.wp_at_zero Go.wp_at_succ

theorem ret_int26 {k : IntKind} {a b : Int} (h : a = b) : Ending.returned (.int k a) = .returned (.int k b) := by rw [h]
theorem wrap26 (n : Int) (h0 : -9223372036854775808 ≤ n) (h1 : n ≤ 9223372036854775807) : IntKind.i64.wrap n = n := IntWalk.i64_in _ (by omega)

/-- A size as it counts. -/
def cutC (n : Int) : Nat := if n < 0 then 0 else if 65536 < n then 65536 else n.toNat
theorem cutC_le (n : Int) : cutC n ≤ 65536 := by
  unfold cutC
  split
  · omega
  · split <;> omega
/-- As few parts of at most m as n are. -/
def partsC (n m : Nat) : Nat := if n = 0 then 0 else (n - 1) / m + 1
set_option maxHeartbeats 400000 in
theorem partsS_no (n m : Int) (w : World) (h : n < 1) : Calls Tryz.prog 105 #[.int .i64 n, .int .i64 m] w fun e w' => e = .returned (.int .i64 0) ∧ w = w' := by
  go_enter Tryz.func105, Tryz.ntmps105
  go_wp2
  go_ret
  exact ⟨rfl, rfl⟩
set_option maxHeartbeats 400000 in
theorem parts_65535 (n : Nat) (w : World) (h : 1 ≤ n) (h2 : n ≤ 4194304) : Calls Tryz.prog 105 #[.int .i64 (n : Int), .int .i64 65535] w fun e w' => e = .returned (.int .i64 (partsC n 65535 : Nat)) ∧ w = w' := by
  have HP : Hid ((((n : Int) - 1) / 65535 + 1 : Int) = (partsC n 65535 : Nat)) := by show _ = _; unfold partsC; rw [if_neg (by omega)]; omega
  have h1 : ¬ ((n : Int) < 1) := by omega
  clear h
  go_enter Tryz.func105, Tryz.ntmps105
  go_wp2
  go_ret
  exact ⟨ret_int26 HP.out, rfl⟩
theorem pieces_no (n : Int) (w : World) (h : n < 1) : Calls Tryz.prog 63 #[.int .i64 n] w fun e w' => e = .returned (.int .i64 0) ∧ w = w' := by
  go_enter Tryz.func63, Tryz.ntmps63
  go_wp2_with (go_at_call 105; refine (partsS_no _ _ _ h).mono ?_; rintro e w' ⟨rfl, rfl⟩)
  go_ret
  exact ⟨rfl, rfl⟩
theorem pieces_yes (n : Nat) (w : World) (h : 1 ≤ n) (h2 : n ≤ 4194304) : Calls Tryz.prog 63 #[.int .i64 (n : Int)] w fun e w' => e = .returned (.int .i64 (partsC n 65535 : Nat)) ∧ w = w' := by
  have HP := Lib.hid (parts_65535 n w h h2)
  generalize partsC n 65535 = k at *
  go_enter Tryz.func63, Tryz.ntmps63
  go_wp2_with (go_at_call 105; refine HP.out.mono ?_; rintro e w' ⟨rfl, rfl⟩)
  go_ret
  exact ⟨rfl, rfl⟩
theorem pieces_nat (n : Nat) (w : World) (h2 : n ≤ 4194304) : Calls Tryz.prog 63 #[.int .i64 (n : Int)] w fun e w' => e = .returned (.int .i64 (partsC n 65535 : Nat)) ∧ w = w' := by
  by_cases h : n = 0
  · subst h
    exact pieces_no _ _ (by omega)
  · exact pieces_yes n w (by omega) h2
theorem partsC_le (n m : Nat) (h : n ≤ 4194304) : partsC n m ≤ 4194305 := by
  unfold partsC
  split
  · omega
  · have := Nat.div_le_self (n - 1) m
    omega
end Go.Proofs.YtaknladkodibaaaGreatDoor
/- Layer 26: the ledger: what its calls add. -/
namespace Go.Proofs.YtaknladkodibaaaGreatDoor
open Go.RowKit
attribute [local go_sem ↓] Go.wp_at_zero Go.wp_at_succ

def intC (n : Nat) : Value := .int .i64 (n : Int)
theorem sum_take_le (xs : List Nat) (k : Nat) : (xs.take k).sum ≤ xs.sum := by
  have := congrArg List.sum (List.take_append_drop k xs)
  rw [List.sum_append] at this
  omega
theorem sum_take_succ {xs : List Nat} {k x : Nat} (h : xs[k]? = some x) : (xs.take (k + 1)).sum = (xs.take k).sum + x := by
  rw [List.take_add_one, h, List.sum_append]
  simp
set_option maxHeartbeats 400000 in
theorem sum26_any (A : Option Addr) (l c : Nat) (xs : List Nat) (B : Nat) (w : World) (hl : xs.length = l) (hm : l ≤ 1000) (hs : xs.sum ≤ 1152921504606846976) (hb : Cells w B A (xs.map intC)) :
    Calls Tryz.prog 104 #[.slice A l c] w fun e w' => e = .returned (.int .i64 (xs.sum : Nat)) ∧ w = w' := by
  have HC := Lib.hid hb
  have HSM := Lib.hid (sum_take_le xs)
  clear hb
  go_enter Tryz.func104, Tryz.ntmps104
  go_wp2
  go_loopg [3, 5, 8] l (fun gk v _ i wr => ∃ k : Nat, k + gk = l ∧ i = .int .i64 k ∧ v = .int .i64 ((xs.take k).sum : Nat) ∧ wr = w)
  case atStart => exact ⟨0, by omega, rfl, rfl, rfl⟩
  case round =>
    obtain ⟨k, hk, rfl, rfl, rfl⟩ := hrel
    by_cases h : k < l
    · obtain ⟨x, hx⟩ : ∃ x, xs[k]? = some x := ⟨_, List.getElem?_eq_getElem (by omega)⟩
      obtain ⟨g, o, rfl, _, hc⟩ := HC.out (by rw [List.length_map]; omega)
      have c0 : wr.cell? ⟨g, o + k, none⟩ = some (.int .i64 (x : Int)) := hc k _ (by rw [List.getElem?_map, hx]; rfl)
      have HS1 := Lib.hid (sum_take_succ hx)
      have h1 := HSM.out k
      have h2 := HSM.out (k + 1)
      rw [HS1.out] at h2
      have HK : Hid (((xs.take (k + 1)).sum : Int) = ((xs.take k).sum : Int) + x) := by show _ = _; rw [HS1.out]; omega
      clear hc hx
      go_wp2
      go_roundg (gk - 1)
      case measure => omega
      case rel => exact ⟨k + 1, by omega, by go_num, by rw [HS1.out]; go_num, rfl⟩
    · obtain rfl : k = l := by omega
      have HK : Hid ((xs.take k).sum = xs.sum) := by show _ = _; rw [List.take_of_length_le (by omega)]
      go_wp2
      go_ret
      exact ⟨by rw [← HK.out]; rfl, rfl⟩

/-- The ledger of a block, by its number. -/
def Led (w : World) (g n : Nat) : Prop := Box w g #[.int .i64 (n : Int)] 59
theorem led_set {w : World} {g n : Nat} (h : Led w g n) (m : Nat) : Led (w.setCell ⟨g, 0, none⟩ (.int .i64 (m : Int))) g m := heap_setCell_same w g 0 _ _ _ h
set_option maxHeartbeats 400000 in
theorem addL_any (g n : Nat) (A : Option Addr) (l c : Nat) (xs : List Nat) (B : Nat) (w : World) (hL : Led w g n) (hn : n ≤ 1152921504606846976) (hl : xs.length = l) (hm : l ≤ 1000) (hs : xs.sum ≤ 1152921504606846976) (hb : Cells w B A (xs.map intC)) :
    Calls Tryz.prog 61 #[.pointer (some ⟨g, 0, none⟩), .slice A l c] w fun e w' => e = .returned (.tuple #[]) ∧ Led w' g (n + xs.sum) ∧ Mod (oneB g) w w' := by
  have HS := Lib.hid (fun W (h : Cells W B A (xs.map intC)) => sum26_any A l c xs B W hl hm hs h)
  have HC := Lib.hid hb
  have HL := Lib.hid hL
  have c0 : w.cell? ⟨g, 0, none⟩ = some (.int .i64 (n : Int)) := hL.cell 0
  have f0 := frozen_of_row w g 0 _ _ hL
  have hg := hL.lt
  clear hb hL hl hm
  have hw : IntKind.i64.wrap ((n : Int) + (xs.sum : Nat)) = ((n + xs.sum : Nat) : Int) := by rw [wrap26 _ (by omega) (by omega)]; omega
  generalize xs.sum = m at *
  go_enter Tryz.func61, Tryz.ntmps61
  go_wp2
  go_region_with (first
    | (go_at_call 104; refine (HS.out w.drew HC.out.drew).mono ?_; rintro e w' ⟨rfl, rfl⟩))
  all_goals
    go_end0
    exact ⟨rfl, led_set HL.out _, (Mod.refl (oneB g) w).drew.set ⟨g, 0, none⟩ _ (.inl rfl)⟩

set_option maxHeartbeats 400000 in
theorem right26_any (n : Int) (w : World) : Calls Tryz.prog 62 #[.int .i64 n] w fun e w' => e = .returned (.int .i64 (cutC n : Nat)) ∧ w = w' := by
  have HC : Hid (cutC n = if n < 0 then 0 else if 65536 < n then 65536 else n.toNat) := rfl
  generalize cutC n = q at *
  by_cases h0 : n < 0
  · have HQ : Hid ((q : Int) = 0) := by show _ = _; rw [HC.out, if_pos h0]; rfl
    clear HC
    go_enter Tryz.func62, Tryz.ntmps62
    go_wp2
    go_ret
    exact ⟨by rw [HQ.out]; rfl, rfl⟩
  by_cases h1 : 65536 < n
  · have HQ : Hid ((q : Int) = 65536) := by show _ = _; rw [HC.out, if_neg h0, if_pos h1]; rfl
    clear HC
    go_enter Tryz.func62, Tryz.ntmps62
    go_wp2
    go_ret
    exact ⟨by rw [HQ.out]; rfl, rfl⟩
  · have HQ : Hid ((q : Int) = n) := by show _ = _; rw [HC.out, if_neg h0, if_neg h1]; omega
    clear HC
    go_enter Tryz.func62, Tryz.ntmps62
    go_wp2
    go_ret
    exact ⟨by rw [HQ.out]; rfl, rfl⟩

theorem Cells.of_box {w : World} {b : Nat} {cs : Array Value} {t : TypeId} {xs : List Nat} (e : cs.toList = xs.map intC) (h : w.heap[b]? = some (.cells cs t (0, 0))) : Cells w (b + 1) (some ⟨b, 0, none⟩) (xs.map intC) := fun _ => by
  refine ⟨b, 0, rfl, by omega, fun j u hj => ?_⟩
  rw [Nat.zero_add, cell_of_row w b j _ _ _ h, ← Array.getElem?_toList, e]
  exact hj

set_option maxHeartbeats 800000 in
theorem put26_any (g n : Nat) (s : ByteArray) (z : Int) (w : World) (hL : Led w g n) (hn : n ≤ 1152921504606846976) (hs : s.size ≤ 1099511627776) :
    Calls Tryz.prog 26 #[.pointer (some ⟨g, 0, none⟩), .string s, .int .i64 z] w fun e w' => e = .returned (.tuple #[]) ∧ Led w' g (n + (22 + s.size + cutC z)) ∧ Mod (oneB g) w w' := by
  have hq := cutC_le z
  have HR := Lib.hid (right26_any z w)
  generalize cutC z = q at *
  have HSUM : Hid ([22, s.size, q].sum = 22 + s.size + q) := by show _ = _; simp [List.sum_cons]; try omega
  have HCE : Hid (Cells (w.alloc (.cells #[.int .i64 22, .int .i64 (s.size : Int), .int .i64 (q : Int)] 3)) (w.heap.size + 1) (some ⟨w.heap.size, 0, none⟩) ([22, s.size, q].map intC)) := Cells.of_box rfl (heap_alloc_new w _)
  have HA := Lib.hid (addL_any g n (some ⟨w.heap.size, 0, none⟩) 3 3 [22, s.size, q] (w.heap.size + 1) _ (hL.alloc (.cells #[.int .i64 22, .int .i64 (s.size : Int), .int .i64 (q : Int)] 3)) hn rfl (by omega) (by rw [HSUM.out]; omega) HCE.out)
  rw [HSUM.out] at HA
  have hg := hL.lt
  clear HSUM HCE hL
  go_enter Tryz.func26, Tryz.ntmps26
  go_wp2_with (first
    | (go_at_call 61; refine HA.out.mono ?_; rintro e w1 ⟨rfl, h1, h2⟩; have H1 := Lib.hid h1; have H2 := Lib.hid h2; clear h1 h2)
    | (go_at_call 62; refine HR.out.mono ?_; rintro e w9 ⟨rfl, rfl⟩))
  go_end0
  exact ⟨rfl, H1.out, ((Mod.refl (oneB g) w).alloc _).then_ H2.out⟩
set_option maxHeartbeats 800000 in
theorem delete26_any (g n : Nat) (s : ByteArray) (w : World) (hL : Led w g n) (hn : n ≤ 1152921504606846976) (hs : s.size ≤ 1099511627776) :
    Calls Tryz.prog 27 #[.pointer (some ⟨g, 0, none⟩), .string s] w fun e w' => e = .returned (.tuple #[]) ∧ Led w' g (n + (22 + s.size)) ∧ Mod (oneB g) w w' := by
  have HSUM : Hid ([22, s.size].sum = 22 + s.size) := by show _ = _; simp [List.sum_cons]; try omega
  have HCE : Hid (Cells (w.alloc (.cells #[.int .i64 22, .int .i64 (s.size : Int)] 3)) (w.heap.size + 1) (some ⟨w.heap.size, 0, none⟩) ([22, s.size].map intC)) := Cells.of_box rfl (heap_alloc_new w _)
  have HA := Lib.hid (addL_any g n (some ⟨w.heap.size, 0, none⟩) 2 2 [22, s.size] (w.heap.size + 1) _ (hL.alloc (.cells #[.int .i64 22, .int .i64 (s.size : Int)] 3)) hn rfl (by omega) (by rw [HSUM.out]; omega) HCE.out)
  rw [HSUM.out] at HA
  have hg := hL.lt
  clear HSUM HCE hL
  go_enter Tryz.func27, Tryz.ntmps27
  go_wp2_with (first
    | (go_at_call 61; refine HA.out.mono ?_; rintro e w1 ⟨rfl, h1, h2⟩; have H1 := Lib.hid h1; have H2 := Lib.hid h2; clear h1 h2))
  go_end0
  exact ⟨rfl, H1.out, ((Mod.refl (oneB g) w).alloc _).then_ H2.out⟩
set_option maxHeartbeats 800000 in
theorem stream26_any (g n : Nat) (s : ByteArray) (w : World) (hL : Led w g n) (hn : n ≤ 1152921504606846976) (hs : s.size ≤ 1099511627776) :
    Calls Tryz.prog 24 #[.pointer (some ⟨g, 0, none⟩), .string s] w fun e w' => e = .returned (.tuple #[]) ∧ Led w' g (n + (22 + 22 + s.size)) ∧ Mod (oneB g) w w' := by
  have HSUM : Hid ([22, 22, s.size].sum = 22 + 22 + s.size) := by show _ = _; simp [List.sum_cons]; try omega
  have HCE : Hid (Cells (w.alloc (.cells #[.int .i64 22, .int .i64 22, .int .i64 (s.size : Int)] 3)) (w.heap.size + 1) (some ⟨w.heap.size, 0, none⟩) ([22, 22, s.size].map intC)) := Cells.of_box rfl (heap_alloc_new w _)
  have HA := Lib.hid (addL_any g n (some ⟨w.heap.size, 0, none⟩) 3 3 [22, 22, s.size] (w.heap.size + 1) _ (hL.alloc (.cells #[.int .i64 22, .int .i64 22, .int .i64 (s.size : Int)] 3)) hn rfl (by omega) (by rw [HSUM.out]; omega) HCE.out)
  rw [HSUM.out] at HA
  have hg := hL.lt
  clear HSUM HCE hL
  go_enter Tryz.func24, Tryz.ntmps24
  go_wp2_with (first
    | (go_at_call 61; refine HA.out.mono ?_; rintro e w1 ⟨rfl, h1, h2⟩; have H1 := Lib.hid h1; have H2 := Lib.hid h2; clear h1 h2))
  go_end0
  exact ⟨rfl, H1.out, ((Mod.refl (oneB g) w).alloc _).then_ H2.out⟩
set_option maxHeartbeats 800000 in
theorem more26_any (g n : Nat) (z : Int) (w : World) (hL : Led w g n) (hn : n ≤ 1152921504606846976)  :
    Calls Tryz.prog 25 #[.pointer (some ⟨g, 0, none⟩), .int .i64 z] w fun e w' => e = .returned (.tuple #[]) ∧ Led w' g (n + (cutC z + 2 * partsC (cutC z) 65535)) ∧ Mod (oneB g) w w' := by
  have hq := cutC_le z
  have HR := Lib.hid (right26_any z w)
  generalize cutC z = q at *
  have HPI := Lib.hid (pieces_nat q w (by omega))
  have hpp := partsC_le q 65535 (by omega)
  have hw2 : IntKind.i64.wrap (2 * ((partsC q 65535 : Nat) : Int)) = ((2 * partsC q 65535 : Nat) : Int) := by rw [wrap26 _ (by omega) (by omega)]; omega
  have HSUM : Hid ([q, 2 * partsC q 65535].sum = q + 2 * partsC q 65535) := by show _ = _; simp [List.sum_cons]; try omega
  have HCE : Hid (Cells (w.alloc (.cells #[.int .i64 (q : Int), .int .i64 (2 * partsC q 65535 : Nat)] 3)) (w.heap.size + 1) (some ⟨w.heap.size, 0, none⟩) ([q, 2 * partsC q 65535].map intC)) := Cells.of_box rfl (heap_alloc_new w _)
  have HA := Lib.hid (addL_any g n (some ⟨w.heap.size, 0, none⟩) 2 2 [q, 2 * partsC q 65535] (w.heap.size + 1) _ (hL.alloc (.cells #[.int .i64 (q : Int), .int .i64 (2 * partsC q 65535 : Nat)] 3)) hn rfl (by omega) (by rw [HSUM.out]; omega) HCE.out)
  rw [HSUM.out] at HA
  have hg := hL.lt
  clear HSUM HCE hL
  go_enter Tryz.func25, Tryz.ntmps25
  go_wp2_with (first
    | (go_at_call 61; refine HA.out.mono ?_; rintro e w1 ⟨rfl, h1, h2⟩; have H1 := Lib.hid h1; have H2 := Lib.hid h2; clear h1 h2)
    | (go_at_call 62; refine HR.out.mono ?_; rintro e w9 ⟨rfl, rfl⟩)
    | (go_at_call 63; refine HPI.out.mono ?_; rintro e w9 ⟨rfl, rfl⟩))
  go_end0
  exact ⟨rfl, H1.out, ((Mod.refl (oneB g) w).alloc _).then_ H2.out⟩
theorem issued_any (g n : Nat) (w : World) (hL : Led w g n) : Calls Tryz.prog 28 #[.pointer (some ⟨g, 0, none⟩)] w fun e w' => e = .returned (.int .i64 (n : Int)) ∧ w = w' := by
  have c0 : w.cell? ⟨g, 0, none⟩ = some (.int .i64 (n : Int)) := hL.cell 0
  have hg := hL.lt
  clear hL
  go_enter Tryz.func28, Tryz.ntmps28
  go_wp2
  go_ret
  exact ⟨rfl, rfl⟩

/-- A file in memory: its name, and where its data lies. -/
structure LdF where
  s : ByteArray
  A : Option Addr
  len : Nat
  cap : Nat
def LdF.cells (f : LdF) : List Value := [.string f.s, .slice f.A f.len f.cap]
/-- Their rows in the directory. -/
def rowsC (fs : List LdF) : Nat := (fs.map fun f => 18 + f.s.size).sum
def boundC (n : Nat) (fs : List LdF) : Nat := 1044 + n + rowsC fs
theorem files_at {fs : List LdF} {k : Nat} {f : LdF} (h : fs[k]? = some f) : (fs.map LdF.cells).flatten[k * 2]? = some (.string f.s) ∧ (fs.map LdF.cells).flatten[k * 2 + 1]? = some (.slice f.A f.len f.cap) := by
  have hX : ∀ x ∈ fs.map LdF.cells, x.length = 2 := fun x hx => by
    obtain ⟨f, _, rfl⟩ := List.mem_map.1 hx
    rfl
  have hk : (fs.map LdF.cells)[k]? = some f.cells := by rw [List.getElem?_map, h]; rfl
  exact ⟨flatten_at (s := 2) (r := 0) hX hk rfl, flatten_at (s := 2) (r := 1) hX hk rfl⟩
theorem files_len (fs : List LdF) : (fs.map LdF.cells).flatten.length = fs.length * 2 := by
  induction fs with
  | nil => rfl
  | cons f l ih => rw [List.map_cons, List.flatten_cons, List.length_append, ih, List.length_cons]; show 2 + _ = _; omega
theorem rowsC_take_succ {fs : List LdF} {k : Nat} {f : LdF} (h : fs[k]? = some f) : rowsC (fs.take (k + 1)) = rowsC (fs.take k) + (18 + f.s.size) := by
  unfold rowsC
  rw [List.map_take, List.map_take]
  exact sum_take_succ (by rw [List.getElem?_map, h]; rfl)
theorem rowsC_take_le (fs : List LdF) (k : Nat) : rowsC (fs.take k) ≤ rowsC fs := by
  unfold rowsC
  rw [List.map_take]
  exact sum_take_le _ _

set_option maxHeartbeats 1000000 in
theorem bound_any (g n : Nat) (A : Option Addr) (l c : Nat) (fs : List LdF) (B : Nat) (w : World) (hL : Led w g n) (hn : n ≤ 576460752303423488) (hl : fs.length = l) (hm : l ≤ 1099511627776) (hr : rowsC fs ≤ 1099511627776) (hb : Cells w B A (fs.map LdF.cells).flatten) (hB : B ≤ w.heap.size) :
    Calls Tryz.prog 60 #[.pointer (some ⟨g, 0, none⟩), .slice A l c] w fun e w' => e = .returned (.int .i64 (boundC n fs : Nat)) ∧ Below w.heap.size w w' := by
  have HC := Lib.hid hb
  have HL := Lib.hid hL
  have HSM := Lib.hid (rowsC_take_le fs)
  have HFL := Lib.hid (files_len fs)
  have HBO : Hid (boundC n fs = 1044 + n + rowsC fs) := rfl
  have hg := hL.lt
  clear hb hL
  generalize boundC n fs = bo at *
  go_enter Tryz.func60, Tryz.ntmps60
  go_wp2
  go_loopg [5, 7, 12] l (fun gk v _ i wr => ∃ k : Nat, k + gk = l ∧ i = .int .i64 k ∧ v = .int .i64 (rowsC (fs.take k) : Nat) ∧ Below w.heap.size w wr)
  case atStart => exact ⟨0, by omega, rfl, rfl, Below.refl _ _⟩
  case round =>
    obtain ⟨k, hk, rfl, rfl, hbel⟩ := hrel
    have HBL := Lib.hid hbel
    clear hbel
    by_cases h : k < l
    · obtain ⟨f, hx⟩ : ∃ x, fs[k]? = some x := ⟨_, List.getElem?_eq_getElem (by omega)⟩
      obtain ⟨b, o, rfl, hbB, hc⟩ := HC.out (by rw [HFL.out]; omega)
      have HF := Lib.hid (files_at hx)
      have c0 : wr.cell? ⟨b, o + k * 2, none⟩ = some (.string f.s) := (HBL.out.cell (show b < w.heap.size by omega)).trans (hc _ _ HF.out.1)
      have c1 : wr.cell? ⟨b, o + k * 2 + 1, none⟩ = some (.slice f.A f.len f.cap) := (HBL.out.cell (show b < w.heap.size by omega)).trans (by rw [Nat.add_assoc]; exact hc _ _ HF.out.2)
      have HS1 := Lib.hid (rowsC_take_succ hx)
      have h1 := HSM.out k
      have h2 := HSM.out (k + 1)
      rw [HS1.out] at h2
      clear hc hx
      go_wp2
      go_roundg (gk - 1)
      case measure => omega
      case rel => exact ⟨k + 1, by omega, by go_num, by rw [HS1.out]; go_num, HBL.out.alloc HBL.out.size _⟩
    · obtain rfl : k = l := by omega
      have HK : Hid (rowsC (fs.take k) = rowsC fs) := by show _ = _; rw [List.take_of_length_le (by omega)]
      rw [HK.out]
      have HLW := Lib.hid (Box.below HL.out HBL.out hg)
      have c0 : wr.cell? ⟨g, 0, none⟩ = some (.int .i64 (n : Int)) := HLW.out.cell 0
      generalize rowsC fs = rr at *
      have HSUM : Hid ([1024, n, rr, 20].sum = bo) := by show _ = _; rw [HBO.out]; simp [List.sum_cons]; omega
      have HCE : Hid (Cells (wr.alloc (.cells #[.int .i64 1024, .int .i64 (n : Int), .int .i64 (rr : Int), .int .i64 20] 3)) (wr.heap.size + 1) (some ⟨wr.heap.size, 0, none⟩) ([1024, n, rr, 20].map intC)) := Cells.of_box rfl (heap_alloc_new wr _)
      have HA := Lib.hid (sum26_any (some ⟨wr.heap.size, 0, none⟩) 4 4 [1024, n, rr, 20] (wr.heap.size + 1) _ rfl (by omega) (by simp [List.sum_cons]; omega) HCE.out)
      rw [HSUM.out] at HA
      have hgw := HLW.out.lt
      clear HSUM HCE HC HK
      go_wp2_with (go_at_call 104; refine HA.out.mono ?_; rintro e w1 ⟨rfl, rfl⟩)
      go_ret
      exact ⟨rfl, HBL.out.alloc HBL.out.size _⟩

end Go.Proofs.YtaknladkodibaaaGreatDoor
/- Layer 26: the document's answers, and the chapter's example. -/
namespace Go.Proofs.YtaknladkodibaaaGreatDoor
open Go.RowKit
attribute [local go_sem ↓] Go.wp_at_zero Go.wp_at_succ

end Go.Proofs.YtaknladkodibaaaGreatDoor
