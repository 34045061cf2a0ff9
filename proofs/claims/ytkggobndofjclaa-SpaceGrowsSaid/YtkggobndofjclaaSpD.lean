/- Layer 26: what is done with a ledger, and what the document has behind it. -/
import Derived.Test.YtkggobndofjclaaSpV
namespace Go.Proofs.Ytkggobndofjclaa
open Go.RowKit
attribute [local go_sem ↓] Go.wp_at_zero Go.wp_at_succ

/-- What is done with a ledger, in memory. -/
structure LAct where
  kind : Int
  s : ByteArray
  n : Int
  A : Option Addr
  len : Nat
  cap : Nat
  fs : List LF
def LAct.cells (a : LAct) : List Value := [.int .i64 a.kind, .string a.s, .int .i64 a.n, .slice a.A a.len a.cap]
/-- Its files lie there. -/
def LAct.In (a : LAct) (w : World) (B : Nat) : Prop := a.fs.length = a.len ∧ Cells w B a.A (a.fs.map LF.cells).flatten
theorem LAct.In.below {a : LAct} {w w' : World} {B : Nat} (h : a.In w B) (hb : Below B w w') : a.In w' B := ⟨h.1, h.2.below hb (Nat.le_refl _)⟩
theorem acts_at {acs : List LAct} {k : Nat} {a : LAct} (h : acs[k]? = some a) : (acs.map LAct.cells).flatten[k * 4]? = some (.int .i64 a.kind) ∧ (acs.map LAct.cells).flatten[k * 4 + 1]? = some (.string a.s) ∧ (acs.map LAct.cells).flatten[k * 4 + 2]? = some (.int .i64 a.n) ∧ (acs.map LAct.cells).flatten[k * 4 + 3]? = some (.slice a.A a.len a.cap) := by
  have hX : ∀ x ∈ acs.map LAct.cells, x.length = 4 := fun x hx => by
    obtain ⟨f, _, rfl⟩ := List.mem_map.1 hx
    rfl
  have hk : (acs.map LAct.cells)[k]? = some a.cells := by rw [List.getElem?_map, h]; rfl
  exact ⟨flatten_at (s := 4) (r := 0) hX hk rfl, flatten_at (s := 4) (r := 1) hX hk rfl, flatten_at (s := 4) (r := 2) hX hk rfl, flatten_at (s := 4) (r := 3) hX hk rfl⟩
theorem acts_len (acs : List LAct) : (acs.map LAct.cells).flatten.length = acs.length * 4 := by
  induction acs with
  | nil => rfl
  | cons f l ih => rw [List.map_cons, List.flatten_cons, List.length_append, ih, List.length_cons]; show 4 + _ = _; omega
/-- Acts that aren't more, or greater, than are gone through. -/
def NarrowA (acs : List LAct) : Prop := acs.length ≤ 250 ∧ ∀ a ∈ acs, a.s.size ≤ 300 ∧ NarrowF a.fs

set_option maxHeartbeats 800000 in
theorem great_any (A : Option Addr) (l c : Nat) (acs : List LAct) (B : Nat) (w : World) (hl : acs.length = l) (hb : Cells w B A (acs.map LAct.cells).flatten) (hin : ∀ a ∈ acs, a.In w B) :
    Calls Try.prog 7 #[.slice A l c] w fun e w' => ∃ o : Bool, e = .returned (.bool o) ∧ w = w' ∧ (o = false → NarrowA acs) := by
  have HC := Lib.hid hb
  have HIN := Lib.hid hin
  have HFL := Lib.hid (acts_len acs)
  clear hb hin
  go_enter Try.func7, Try.ntmps7
  go_wp2
  go_loopg [3] l (fun gk i wr => ∃ k : Nat, k + gk = l ∧ k ≤ 300 ∧ i = .int .i64 k ∧ wr = w ∧ ∀ j f, j < k → acs[j]? = some f → f.s.size ≤ 300 ∧ NarrowF f.fs)
  case atStart => exact ⟨0, by omega, by omega, rfl, rfl, fun j f hj => absurd hj (Nat.not_lt_zero _)⟩
  case round =>
    obtain ⟨k, hk, hk3, rfl, rfl, hall⟩ := hrel
    have HALL := Lib.hid hall
    clear hall
    by_cases h : k < l
    · by_cases h3 : k < 300
      · obtain ⟨f, hx⟩ : ∃ x, acs[k]? = some x := ⟨_, List.getElem?_eq_getElem (by omega)⟩
        obtain ⟨b, o, rfl, hbB, hc⟩ := HC.out (by rw [HFL.out]; omega)
        have HF := Lib.hid (acts_at hx)
        have c1 : wr.cell? ⟨b, o + k * 4 + 1, none⟩ = some (.string f.s) := (by rw [Nat.add_assoc]; exact hc _ _ HF.out.2.1)
        have c3 : wr.cell? ⟨b, o + k * 4 + 3, none⟩ = some (.slice f.A f.len f.cap) := (by rw [Nat.add_assoc]; exact hc _ _ HF.out.2.2.2)
        have HI := HIN.out f (List.mem_of_getElem? hx)
        have HW := Lib.hid (wide_any f.A f.len f.cap f.fs B wr HI.1 HI.2)
        have HX := Lib.hid hx
        have hd3 : decide ((k : Int) < 300) = true := by simp; omega
        have HK3 := Lib.hid h3
        have hw1 : IntKind.i64.wrap ((k : Int) + 1) = (k : Int) + 1 := wrap26 _ (by omega) (by omega)
        clear hc hx h3 hk3 HI
        by_cases hs : 300 < f.s.size
        · have hd : decide (300 < (f.s.size : Int)) = true := by simp; omega
          clear hs
          go_wp2
          go_ret
          exact ⟨true, rfl, rfl, fun h => by cases h⟩
        · have hd : decide (300 < (f.s.size : Int)) = false := by simp; omega
          have HNA : Hid (f.s.size ≤ 300) := by show _ ≤ _; omega
          clear hs
          go_wp2_with fail
          refine HW.out.mono ?_
          rintro e w' ⟨o, rfl, rfl, hno⟩
          have HNO := Lib.hid hno
          clear hno
          cases o with
          | true =>
            go_wp2
            go_ret
            exact ⟨true, rfl, rfl, fun h => by cases h⟩
          | false =>
            go_wp2
            go_roundg (gk - 1)
            case measure => omega
            case rel =>
              have hk3 := HK3.out
              exact ⟨k + 1, by omega, by omega, by go_num, rfl, fun j f' hj hf' => by
                by_cases hjk : j = k
                · subst hjk
                  rw [HX.out] at hf'
                  injection hf' with hf'
                  subst hf'
                  exact ⟨HNA.out, HNO.out (by first | trivial | rfl)⟩
                · exact HALL.out j f' (by omega) hf'⟩
      · obtain rfl : k = 300 := by omega
        have hl2 : decide (250 < (l : Int)) = true := by simp; omega
        go_wp2
        go_ret
        exact ⟨true, by rw [← hl2]; rfl, rfl, fun h => by cases h⟩
    · obtain rfl : k = l := by omega
      go_wp2
      go_ret
      exact ⟨decide (250 < (k : Int)), rfl, rfl, fun hd => ⟨by simp at hd; omega, fun f hf => by
        obtain ⟨j, hj⟩ := List.mem_iff_getElem?.1 hf
        exact HALL.out j f (by have := (List.getElem?_eq_some_iff.1 hj).1; omega) hj⟩⟩

/-- What a ledger has behind an act. -/
def stepC (x : Nat) (a : LAct) : Nat :=
  if a.kind = 0 then x + (22 + a.s.size + cutC a.n)
  else if a.kind = 1 then x + (22 + a.s.size)
  else if a.kind = 2 then x + (22 + 22 + a.s.size)
  else if a.kind = 3 then x + (cutC a.n + 2 * partsC (cutC a.n) 65535)
  else recsC a.fs
theorem stepC_0 {x : Nat} {a : LAct} (h : a.kind = 0) : stepC x a = x + (22 + a.s.size + cutC a.n) := by unfold stepC; rw [if_pos h]
theorem stepC_1 {x : Nat} {a : LAct} (h : a.kind = 1) : stepC x a = x + (22 + a.s.size) := by unfold stepC; rw [if_neg (by omega), if_pos h]
theorem stepC_2 {x : Nat} {a : LAct} (h : a.kind = 2) : stepC x a = x + (22 + 22 + a.s.size) := by unfold stepC; rw [if_neg (by omega), if_neg (by omega), if_pos h]
theorem stepC_3 {x : Nat} {a : LAct} (h : a.kind = 3) : stepC x a = x + (cutC a.n + 2 * partsC (cutC a.n) 65535) := by unfold stepC; rw [if_neg (by omega), if_neg (by omega), if_neg (by omega), if_pos h]
theorem stepC_4 {x : Nat} {a : LAct} (h0 : ¬ a.kind = 0) (h1 : ¬ a.kind = 1) (h2 : ¬ a.kind = 2) (h3 : ¬ a.kind = 3) : stepC x a = recsC a.fs := by unfold stepC; rw [if_neg h0, if_neg h1, if_neg h2, if_neg h3]
theorem recsC_le {fs : List LF} (h : NarrowF fs) : recsC fs ≤ 16500000 := by
  obtain ⟨h1, h2⟩ := h
  have : ∀ (n : Nat) (l : List LF), l.length ≤ n → (∀ f ∈ l, f.s.size ≤ 300 ∧ f.len ≤ 70000) → recsC l ≤ n * 65858 := by
    intro n
    induction n with
    | zero => intro l hl _; rw [List.eq_nil_of_length_eq_zero (Nat.le_zero.1 hl)]; exact Nat.zero_le _
    | succ n ih =>
      intro l hl hf
      cases l with
      | nil => exact Nat.zero_le _
      | cons f l =>
        have := ih l (by rw [List.length_cons] at hl; omega) (fun x hx => hf x (List.mem_cons_of_mem _ hx))
        have hff := hf f (List.mem_cons_self ..)
        have hc := cutC_le (f.len : Int)
        have e : recsC (f :: l) = 22 + f.s.size + cutC (f.len : Int) + recsC l := by unfold recsC; rw [List.map_cons, List.sum_cons]
        rw [e]
        omega
  have := this 250 fs h1 h2
  omega
theorem rowsC_le {fs : List LF} (h : NarrowF fs) : rowsC fs ≤ 100000 := by
  obtain ⟨h1, h2⟩ := h
  have : ∀ (n : Nat) (l : List LF), l.length ≤ n → (∀ f ∈ l, f.s.size ≤ 300 ∧ f.len ≤ 70000) → rowsC l ≤ n * 318 := by
    intro n
    induction n with
    | zero => intro l hl _; rw [List.eq_nil_of_length_eq_zero (Nat.le_zero.1 hl)]; exact Nat.zero_le _
    | succ n ih =>
      intro l hl hf
      cases l with
      | nil => exact Nat.zero_le _
      | cons f l =>
        have := ih l (by rw [List.length_cons] at hl; omega) (fun x hx => hf x (List.mem_cons_of_mem _ hx))
        have hff := hf f (List.mem_cons_self ..)
        have e : rowsC (f :: l) = 18 + f.s.size + rowsC l := by unfold rowsC; rw [List.map_cons, List.sum_cons]
        rw [e]
        omega
  have := this 250 fs h1 h2
  omega
theorem stepC_le {x : Nat} {a : LAct} (hs : a.s.size ≤ 300) (hn : NarrowF a.fs) (m : Nat) (hx : x ≤ (m + 1) * 16500000) : stepC x a ≤ (m + 2) * 16500000 := by
  have hc := cutC_le a.n
  have hr := recsC_le hn
  have hp : partsC (cutC a.n) 65535 ≤ 2 := by
    rw [partsC_pieces hc]
    split
    · omega
    · split <;> omega
  unfold stepC
  split
  · omega
  · split
    · omega
    · split
      · omega
      · split <;> omega

set_option maxHeartbeats 800000 in
theorem does_0 (g x : Nat) (a : LAct) (y : Nat) (w : World) (hL : Led w g x) (hx : x ≤ 576460752303423488) (hy : y ≤ 576460752303423488) (hs : a.s.size ≤ 300) (hk : a.kind = 0) :
    Calls Try.prog 10 #[.pointer (some ⟨g, 0, none⟩), .agg #[.int .i64 a.kind, .string a.s, .int .i64 a.n, .slice a.A a.len a.cap], .int .i64 (y : Int)] w fun e w' => e = .returned (.int .i64 (stepC y a : Nat)) ∧ Led w' g (stepC x a) ∧ Mod (oneB g) w w' := by
  rw [stepC_0 hk, stepC_0 hk]
  obtain ⟨kind, s, n, A, len, cap, fs⟩ := a
  obtain rfl : kind = 0 := hk
  have hs : s.size ≤ 300 := hs
  have hg := hL.lt
  have HL1 := Lib.hid (hL.alloc (.cells #[.int .i64 0, .string s, .int .i64 n, .slice A len cap] 32))
  have HX1 : Hid (Box (w.alloc (.cells #[.int .i64 0, .string s, .int .i64 n, .slice A len cap] 32)) w.heap.size #[.int .i64 0, .string s, .int .i64 n, .slice A len cap] 32) := heap_alloc_new w _
  have HM1 := Lib.hid ((Mod.refl (oneB g) w).alloc (.cells #[.int .i64 0, .string s, .int .i64 n, .slice A len cap] 32))
  have hne : w.heap.size ≠ g := by omega
  have hq := cutC_le n
  show Calls Try.prog 10 #[.pointer (some ⟨g, 0, none⟩), .agg #[.int .i64 0, .string s, .int .i64 n, .slice A len cap], .int .i64 (y : Int)] w _
  clear hL
  go_enter Try.func10, Try.ntmps10
  go_wp2_with (first
    | (go_at_call 19; refine (put26_any g x s n _ HL1.out (by omega) (by omega)).mono ?_; rintro e w2 ⟨rfl, h1, h2⟩; have HL2 := Lib.hid h1; have HM2 := Lib.hid (HM1.out.then_ h2); have HX2 := Lib.hid (Box.mod HX1.out h2 hne); clear h1 h2; have x1 : w2.cell? ⟨w.heap.size, 1, none⟩ = some (.string s) := HX2.out.cell 1; have x2 : w2.cell? ⟨w.heap.size, 2, none⟩ = some (.int .i64 n) := HX2.out.cell 2)
    | (go_at_call 24; refine (rput26_any s n _ (by omega)).mono ?_; rintro e w' ⟨rfl, rfl⟩))
  go_ret
  exact ⟨ret_int26 (by omega), HL2.out, HM2.out⟩

set_option maxHeartbeats 800000 in
theorem does_1 (g x : Nat) (a : LAct) (y : Nat) (w : World) (hL : Led w g x) (hx : x ≤ 576460752303423488) (hy : y ≤ 576460752303423488) (hs : a.s.size ≤ 300) (hk : a.kind = 1) :
    Calls Try.prog 10 #[.pointer (some ⟨g, 0, none⟩), .agg #[.int .i64 a.kind, .string a.s, .int .i64 a.n, .slice a.A a.len a.cap], .int .i64 (y : Int)] w fun e w' => e = .returned (.int .i64 (stepC y a : Nat)) ∧ Led w' g (stepC x a) ∧ Mod (oneB g) w w' := by
  rw [stepC_1 hk, stepC_1 hk]
  obtain ⟨kind, s, n, A, len, cap, fs⟩ := a
  obtain rfl : kind = 1 := hk
  have hs : s.size ≤ 300 := hs
  have hg := hL.lt
  have HL1 := Lib.hid (hL.alloc (.cells #[.int .i64 1, .string s, .int .i64 n, .slice A len cap] 32))
  have HX1 : Hid (Box (w.alloc (.cells #[.int .i64 1, .string s, .int .i64 n, .slice A len cap] 32)) w.heap.size #[.int .i64 1, .string s, .int .i64 n, .slice A len cap] 32) := heap_alloc_new w _
  have HM1 := Lib.hid ((Mod.refl (oneB g) w).alloc (.cells #[.int .i64 1, .string s, .int .i64 n, .slice A len cap] 32))
  have hne : w.heap.size ≠ g := by omega
  have hq := cutC_le n
  have hc0 : cutC 0 = 0 := by decide
  show Calls Try.prog 10 #[.pointer (some ⟨g, 0, none⟩), .agg #[.int .i64 1, .string s, .int .i64 n, .slice A len cap], .int .i64 (y : Int)] w _
  clear hL
  go_enter Try.func10, Try.ntmps10
  go_wp2_with (first
    | (go_at_call 20; refine (delete26_any g x s _ HL1.out (by omega) (by omega)).mono ?_; rintro e w2 ⟨rfl, h1, h2⟩; have HL2 := Lib.hid h1; have HM2 := Lib.hid (HM1.out.then_ h2); have HX2 := Lib.hid (Box.mod HX1.out h2 hne); clear h1 h2; have x1 : w2.cell? ⟨w.heap.size, 1, none⟩ = some (.string s) := HX2.out.cell 1; have x2 : w2.cell? ⟨w.heap.size, 2, none⟩ = some (.int .i64 n) := HX2.out.cell 2)
    | (go_at_call 24; refine (rput26_any s 0 _ (by omega)).mono ?_; rintro e w' ⟨rfl, rfl⟩))
  go_ret
  exact ⟨ret_int26 (by omega), HL2.out, HM2.out⟩

set_option maxHeartbeats 800000 in
theorem does_2 (g x : Nat) (a : LAct) (y : Nat) (w : World) (hL : Led w g x) (hx : x ≤ 576460752303423488) (hy : y ≤ 576460752303423488) (hs : a.s.size ≤ 300) (hk : a.kind = 2) :
    Calls Try.prog 10 #[.pointer (some ⟨g, 0, none⟩), .agg #[.int .i64 a.kind, .string a.s, .int .i64 a.n, .slice a.A a.len a.cap], .int .i64 (y : Int)] w fun e w' => e = .returned (.int .i64 (stepC y a : Nat)) ∧ Led w' g (stepC x a) ∧ Mod (oneB g) w w' := by
  rw [stepC_2 hk, stepC_2 hk]
  obtain ⟨kind, s, n, A, len, cap, fs⟩ := a
  obtain rfl : kind = 2 := hk
  have hs : s.size ≤ 300 := hs
  have hg := hL.lt
  have HL1 := Lib.hid (hL.alloc (.cells #[.int .i64 2, .string s, .int .i64 n, .slice A len cap] 32))
  have HX1 : Hid (Box (w.alloc (.cells #[.int .i64 2, .string s, .int .i64 n, .slice A len cap] 32)) w.heap.size #[.int .i64 2, .string s, .int .i64 n, .slice A len cap] 32) := heap_alloc_new w _
  have HM1 := Lib.hid ((Mod.refl (oneB g) w).alloc (.cells #[.int .i64 2, .string s, .int .i64 n, .slice A len cap] 32))
  have hne : w.heap.size ≠ g := by omega
  have hq := cutC_le n
  have hc0 : cutC 0 = 0 := by decide
  show Calls Try.prog 10 #[.pointer (some ⟨g, 0, none⟩), .agg #[.int .i64 2, .string s, .int .i64 n, .slice A len cap], .int .i64 (y : Int)] w _
  clear hL
  go_enter Try.func10, Try.ntmps10
  go_wp2_with (first
    | (go_at_call 21; refine (stream26_any g x s _ HL1.out (by omega) (by omega)).mono ?_; rintro e w2 ⟨rfl, h1, h2⟩; have HL2 := Lib.hid h1; have HM2 := Lib.hid (HM1.out.then_ h2); have HX2 := Lib.hid (Box.mod HX1.out h2 hne); clear h1 h2; have x1 : w2.cell? ⟨w.heap.size, 1, none⟩ = some (.string s) := HX2.out.cell 1; have x2 : w2.cell? ⟨w.heap.size, 2, none⟩ = some (.int .i64 n) := HX2.out.cell 2)
    | (go_at_call 24; refine (rput26_any s 0 _ (by omega)).mono ?_; rintro e w' ⟨rfl, rfl⟩))
  go_ret
  exact ⟨ret_int26 (by omega), HL2.out, HM2.out⟩

set_option maxHeartbeats 800000 in
theorem does_3 (g x : Nat) (a : LAct) (y : Nat) (w : World) (hL : Led w g x) (hx : x ≤ 576460752303423488) (hy : y ≤ 576460752303423488) (hs : a.s.size ≤ 300) (hk : a.kind = 3) :
    Calls Try.prog 10 #[.pointer (some ⟨g, 0, none⟩), .agg #[.int .i64 a.kind, .string a.s, .int .i64 a.n, .slice a.A a.len a.cap], .int .i64 (y : Int)] w fun e w' => e = .returned (.int .i64 (stepC y a : Nat)) ∧ Led w' g (stepC x a) ∧ Mod (oneB g) w w' := by
  rw [stepC_3 hk, stepC_3 hk]
  obtain ⟨kind, s, n, A, len, cap, fs⟩ := a
  obtain rfl : kind = 3 := hk
  have hs : s.size ≤ 300 := hs
  have hg := hL.lt
  have HL1 := Lib.hid (hL.alloc (.cells #[.int .i64 3, .string s, .int .i64 n, .slice A len cap] 32))
  have HX1 : Hid (Box (w.alloc (.cells #[.int .i64 3, .string s, .int .i64 n, .slice A len cap] 32)) w.heap.size #[.int .i64 3, .string s, .int .i64 n, .slice A len cap] 32) := heap_alloc_new w _
  have HM1 := Lib.hid ((Mod.refl (oneB g) w).alloc (.cells #[.int .i64 3, .string s, .int .i64 n, .slice A len cap] 32))
  have hne : w.heap.size ≠ g := by omega
  have hq := cutC_le n
  have hpp := partsC_le (cutC n) 65535 (by omega)
  show Calls Try.prog 10 #[.pointer (some ⟨g, 0, none⟩), .agg #[.int .i64 3, .string s, .int .i64 n, .slice A len cap], .int .i64 (y : Int)] w _
  clear hL
  go_enter Try.func10, Try.ntmps10
  go_wp2_with (first
    | (go_at_call 22; refine (more26_any g x n _ HL1.out (by omega)).mono ?_; rintro e w2 ⟨rfl, h1, h2⟩; have HL2 := Lib.hid h1; have HM2 := Lib.hid (HM1.out.then_ h2); have HX2 := Lib.hid (Box.mod HX1.out h2 hne); clear h1 h2; have x1 : w2.cell? ⟨w.heap.size, 1, none⟩ = some (.string s) := HX2.out.cell 1; have x2 : w2.cell? ⟨w.heap.size, 2, none⟩ = some (.int .i64 n) := HX2.out.cell 2)
    | (go_at_call 25; refine (rmore26_any n _).mono ?_; rintro e w' ⟨rfl, rfl⟩))
  go_ret
  exact ⟨ret_int26 (by omega), HL2.out, HM2.out⟩
end Go.Proofs.Ytkggobndofjclaa
