/- Layer 11: Each; the law TokensEach. -/
import Derived.Test.YtdlikfefndogbaaTkEach
namespace Go.Proofs.Ytdlikfefndogbaa
open Go.RowKit Go.Shelf

theorem run_equalIn_func_nil {P : Program} (w : World) (d : Nat) (t : TypeId) (ps rs : Array TypeId) (v : Bool) (f : Fn) (ts cs : Array Value) (h : P.underlying t = some (.func ps rs v)) :
    (Op.equalIn (d + 1) t (.func f ts cs) .nilFunc).run P w = .ok false w := by
  simp [Op.equalIn, run_underlying h]
theorem run_eql_func_nil {P : Program} (w : World) (t : TypeId) (ps rs : Array TypeId) (v : Bool) (f : Fn) (ts cs : Array Value) (h : P.underlying t = some (.func ps rs v)) :
    (binOp .eql t (.func f ts cs) .nilFunc).run P w = .ok (.bool false) w := by
  simp only [binOp]
  simp [Op.equal, Op.maxDepth, run_equalIn_func_nil w 9999 t ps rs v f ts cs h]
set_option maxHeartbeats 1000000 in
theorem Each_any (A : Option Addr) (l c : Nat) (bs : List UInt8) (lv : Int) (w : World) (hl : bs.length = l) (hm : l ≤ 4000) (hb : Bytes w w.heap.size A bs) :
    Calls Try.prog 18 #[.slice A l c, .int .i64 lv] w fun e w' => ∃ (A' : Option Addr) (c' b1 : Nat), e = .returned (.func (.func 28) #[] #[.pointer (some ⟨b1, 0, none⟩), .pointer (some ⟨b1 + 1, 0, none⟩)]) ∧
      w'.heap[b1]? = some (.cells #[.slice A' l c'] 22) ∧ w'.heap[b1 + 1]? = some (.cells #[.int .i64 lv] 3) ∧ l ≤ c' ∧ Bytes w' b1 A' bs ∧ w.heap.size ≤ b1 ∧ Below w.heap.size w w' := by
  have HCL := Lib.hid (clone4_any A l c w.heap.size bs w hl (by omega) (Nat.le_refl _) hb)
  have HL := Lib.hid hl
  have HEA := Lib.hid (fun (A' : Option Addr) (c' : Nat) (Z : World) => each_any A' l c' lv Z)
  clear hb hl
  go_enter Try.func18, Try.ntmps18
  go_wp2_with (first
    | (go_at_call 26; refine HCL.out.mono ?_; rintro e w1 ⟨A1, c1, rfl, ho, hb1⟩; have HO := Lib.hid ho; have HB1 := Lib.hid hb1; clear ho hb1)
    | (go_at_call 21; refine (HEA.out A1 c1 w1).mono ?_; rintro e w2 ⟨rfl, hw2⟩; have HW2 := Lib.hid hw2; clear hw2))
  go_ret
  have hz := HB1.out.size
  have hcap : l ≤ c1 := by
    rcases HO.out.2 with ⟨_, h0⟩ | ⟨g, cap, cur, hv, _, _, hnc, _⟩
    · omega
    · cases hv; omega
  refine ⟨A1, c1, w1.heap.size, rfl, by rw [← HW2.out]; exact alloc_keep (heap_alloc_new w1 _) _, ?_, hcap, ?_, hz, ?_⟩
  · rw [← HW2.out]
    have h := heap_alloc_new (w1.alloc (.cells #[.slice A1 l c1] 22)) (.cells #[.int .i64 lv] 3)
    rwa [World.size_alloc] at h
  · rw [← HW2.out]
    exact ((Cells.of_own HO.out).alloc (Nat.le_refl _) _).alloc (by simp) _
  · rw [← HW2.out]
    exact (HB1.out.alloc HB1.out.size _).alloc (by simp; omega) _
set_option maxRecDepth 100000 in
set_option maxHeartbeats 2000000 in
theorem each_law (A : Option Addr) (l c : Nat) (bs : List UInt8) (lv till : Int) (w : World) (hl : bs.length = l) (hcap : l ≤ c) (hb : Bytes w w.heap.size A bs) :
    Calls Try.prog 5 #[.slice A l c, .int .i64 lv, .int .i64 till] w fun e w' => e = .returned (.bool true) ∧ Below w.heap.size w w' := by
  have HLV := Lib.hid (fun W : World => lives11_any W)
  obtain ⟨W1, hW1⟩ : ∃ W1, w.alloc (.cells #[.int .i64 till] 3) = W1 := ⟨_, rfl⟩
  have HB1 : Hid (Below w.heap.size w W1) := by show Below _ _ _; rw [← hW1]; exact (Below.refl _ w).alloc (Nat.le_refl _) _
  have HZ1 : Hid (W1.heap.size = w.heap.size + 1) := by show _ = _; rw [← hW1]; simp
  have HX1 : Hid (W1.heap[w.heap.size]? = some (.cells #[.int .i64 till] 3)) := by show _ = _; rw [← hW1]; exact heap_alloc_new w _
  by_cases h0 : 2000 < l
  · have t0 : decide ((2000 : Int) < (l : Int)) = true := decide_eq_true (by omega)
    clear h0 hb
    go_enter Try.func5, Try.ntmps5
    go_wp2_with (go_at_call 7; refine (HLV.out _).mono ?_; rintro e w' ⟨rfl, hb2⟩; have HB2 := Lib.hid hb2; clear hb2)
    go_ret
    exact ⟨rfl, HB1.out.trans (HB2.out.mono HB1.out.size)⟩
  have t0 : decide ((2000 : Int) < (l : Int)) = false := decide_eq_false (by omega)
  have HS1 := Lib.hid (split_any A l c bs lv W1 hl (by omega) hcap ((hb.below HB1.out (Nat.le_refl _)).more HB1.out.size))
  have HEA := Lib.hid (fun (Z : World) (h : Below w.heap.size w Z) => Each_any A l c bs lv Z hl (by omega) ((hb.below h (Nat.le_refl _)).more h.size))
  have HL := Lib.hid hl
  have hnf : ∀ (Z : World) (cs : Array Value), (binOp .eql 39 (.func (.func 28) #[] cs) .nilFunc).run Try.prog Z = .ok (.bool false) Z := fun Z cs => run_eql_func_nil Z _ _ _ _ _ _ _ Try.underlying39
  have hl2 : l ≤ 2000 := by omega
  have hfew := toks_few bs lv
  clear hb h0 hl hcap
  have HECL : Hid (∀ (w2 W3 w4 W6 : World) (A4 : Option Addr) (c4 b4 : Nat) (A2 : Option Addr) (c2 : Nat), Below W1.heap.size W1 w2 → W3.heap[w2.heap.size]? = some (.cells #[.slice A2 (toks bs lv 0).length c2] 25) → Cells W3 w2.heap.size A2 ((toks bs lv 0).map tkC).flatten → W3.heap.size = w2.heap.size + 1 →
      w4.heap[b4]? = some (.cells #[.slice A4 l c4] 22) → w4.heap[b4 + 1]? = some (.cells #[.int .i64 lv] 3) → l ≤ c4 → Bytes w4 b4 A4 bs → W3.heap.size ≤ b4 → Below W3.heap.size W3 w4 → Below w4.heap.size w4 W6 → W6.heap.size = w4.heap.size + 2 →
      W6.heap[w4.heap.size]? = some (.cells #[.int .i64 0] 3) → W6.heap[w4.heap.size + 1]? = some (.cells #[.bool true] 4) → (W3.heap[w.heap.size]? = some (.cells #[.int .i64 till] 3)) → w.heap.size < w2.heap.size →
      Calls Try.prog 28 #[.func (.func 19) #[] #[.pointer (some ⟨w4.heap.size + 1, 0, none⟩), .pointer (some ⟨w4.heap.size, 0, none⟩), .pointer (some ⟨w2.heap.size, 0, none⟩), .pointer (some ⟨w.heap.size, 0, none⟩)], .pointer (some ⟨b4, 0, none⟩), .pointer (some ⟨b4 + 1, 0, none⟩)] W6
        fun e w7 => (∃ v, e = .returned v) ∧ w7.heap[w4.heap.size]? = some (.cells #[.int .i64 (wantN (toks bs lv 0).length till)] 3) ∧ w7.heap[w4.heap.size + 1]? = some (.cells #[.bool true] 4) ∧ w7.heap[w2.heap.size]? = some (.cells #[.slice A2 (toks bs lv 0).length c2] 25) ∧ w7.heap[w.heap.size]? = some (.cells #[.int .i64 till] 3) ∧ Mod (oneB w4.heap.size) W6 w7) := by
    intro w2 W3 w4 W6 A4 c4 b4 A2 c2 _ hx3 hc3 hz3 g1 g2 hc4 hby4 hb4 hbl4 hb6 hz6 hx9 hx10 hx5 hlt5
    have l1 := (Array.getElem?_eq_some_iff.1 g2).1
    have hs4 := hbl4.size
    have hx5' := (hb6.block _ (by omega)).trans ((hbl4.block _ (by omega)).trans hx5)
    have hx7' := (hb6.block _ (by omega)).trans ((hbl4.block _ (by omega)).trans hx3)
    have h := each_cl b4 (b4 + 1) (w4.heap.size + 1) w4.heap.size w2.heap.size w.heap.size w2.heap.size A4 A2 l c4 c2 b4 bs lv till W6 HL.out (by omega) hc4 (hby4.below (hb6.mono (by omega)) (Nat.le_refl _)) (by omega) (by omega) (by omega)
      ((hb6.block _ (by omega)).trans g1) ((hb6.block _ l1).trans g2) (by omega) (by omega) ((hc3.below (hbl4.mono (by omega)) (Nat.le_refl _)).below (hb6.mono (by omega)) (Nat.le_refl _)) hx10 hx9 hx7' hx5'
    refine h.mono ?_
    rintro e w7 ⟨h1, h2, h3⟩
    exact ⟨h1, h2, h3.keep hx10 (fun e => by have : w4.heap.size + 1 = w4.heap.size := e; omega), h3.keep hx7' (fun e => by have : w2.heap.size = w4.heap.size := e; omega), h3.keep hx5' (fun e => by have : w.heap.size = w4.heap.size := e; omega), h3⟩
  by_cases hpos : 0 < till
  · have u0 : decide (0 < till) = true := decide_eq_true hpos
    by_cases hlt : till < ((toks bs lv 0).length : Int)
    · have u1 : decide (till < ((toks bs lv 0).length : Int)) = true := decide_eq_true hlt
      have hwn : wantN (toks bs lv 0).length till = till := if_pos ⟨hpos, hlt⟩
      rw [hwn] at HECL
      have u2 : (till == till) = true := by simp
      clear hwn hpos hlt
      go_enter Try.func5, Try.ntmps5
      go_wp2_with (first
        | (go_at_call 9; refine HS1.out.mono ?_; rintro e w2 ⟨A2, c2, rfl, hcs, hb2⟩; obtain ⟨W3, hW3⟩ : ∃ W3, w2.alloc (.cells #[.slice A2 (toks bs lv 0).length c2] 25) = W3 := ⟨_, rfl⟩; have hb3 : Below w.heap.size w W3 := (by rw [← hW3]; exact (HB1.out.trans (hb2.mono HB1.out.size)).alloc (HB1.out.trans (hb2.mono HB1.out.size)).size _); have HB2 := Lib.hid hb2; have HB3 := Lib.hid hb3; have HX3 : Hid (W3.heap[w2.heap.size]? = some (.cells #[.slice A2 (toks bs lv 0).length c2] 25)) := (by show _ = _; rw [← hW3]; exact heap_alloc_new w2 _); have HC3 : Hid (Cells W3 w2.heap.size A2 ((toks bs lv 0).map tkC).flatten) := (by show Cells _ _ _ _; rw [← hW3]; exact hcs.alloc (Nat.le_refl _) _); have HZ3 : Hid (W3.heap.size = w2.heap.size + 1) := (by show _ = _; rw [← hW3]; simp); have HX53 : Hid (W3.heap[w.heap.size]? = some (.cells #[.int .i64 till] 3)) := (by show _ = _; rw [← hW3]; have := hb2.size; have := HZ1.out; exact (Below.heap_alloc _ _ _ (by omega)).trans ((hb2.block _ (by omega)).trans HX1.out)); clear hcs hb2 hb3)
        | (go_at_call 18; refine (HEA.out _ HB3.out).mono ?_; rintro e w4 ⟨A4, c4, b4, rfl, g1, g2, hc4, hby4, hb4, hbl4⟩; obtain ⟨W6, hW6⟩ : ∃ W6, (w4.alloc (.cells #[.int .i64 0] 3)).alloc (.cells #[.bool true] 4) = W6 := ⟨_, rfl⟩; have HB6 : Hid (Below w4.heap.size w4 W6) := (by show Below _ _ _; rw [← hW6]; exact ((Below.refl _ w4).alloc (Nat.le_refl _) _).alloc (by simp) _); have HZ6 : Hid (W6.heap.size = w4.heap.size + 2) := (by show _ = _; rw [← hW6]; simp); have HX9 : Hid (W6.heap[w4.heap.size]? = some (.cells #[.int .i64 0] 3)) := (by show _ = _; rw [← hW6]; exact alloc_keep (heap_alloc_new w4 _) _); have HX10 : Hid (W6.heap[w4.heap.size + 1]? = some (.cells #[.bool true] 4)) := (by show _ = _; rw [← hW6]; have h := heap_alloc_new (w4.alloc (.cells #[.int .i64 0] 3)) (.cells #[.bool true] 4); rwa [World.size_alloc] at h); have G1 := Lib.hid g1; have G2 := Lib.hid g2; have HC4 := Lib.hid hc4; have HBY4 := Lib.hid hby4; have HB4 := Lib.hid hb4; have HBL4 := Lib.hid hbl4; clear g1 g2 hc4 hby4 hb4 hbl4)
        | (go_at_call 28; refine (HECL.out w2 W3 w4 W6 A4 c4 b4 A2 c2 HB2.out HX3.out HC3.out HZ3.out G1.out G2.out HC4.out HBY4.out HB4.out HBL4.out HB6.out HZ6.out HX9.out HX10.out HX53.out (by have := HB2.out.size; have := HZ1.out; omega)).mono ?_; rintro e w7 ⟨⟨v7, rfl⟩, h97, h107, h77, h57, hm7⟩; have k9 := cell_of_row w7 w4.heap.size 0 _ _ _ h97; have k10 := cell_of_row w7 (w4.heap.size + 1) 0 _ _ _ h107; have k7 := cell_of_row w7 w2.heap.size 0 _ _ _ h77; have k5 := cell_of_row w7 w.heap.size 0 _ _ _ h57; have HM7 := Lib.hid hm7; clear h97 h107 h77 h57 hm7)
        | (go_at_call 7; refine (HLV.out _).mono ?_; rintro e w8 ⟨rfl, hb8⟩; have HB8 := Lib.hid hb8; clear hb8))
      go_ret
      have hb3 := HB3.out
      have hb4 := hb3.trans (HBL4.out.mono hb3.size)
      have hb6 := hb4.trans (HB6.out.mono hb4.size)
      have hb7 : Below w.heap.size w w7 := HM7.out.below hb6 hb6.size (fun k hk => by have : k = w4.heap.size := hk; have := hb4.size; omega)
      exact ⟨rfl, hb7.trans (HB8.out.mono hb7.size)⟩

    · have u1 : decide (till < ((toks bs lv 0).length : Int)) = false := decide_eq_false hlt
      have hwn : wantN (toks bs lv 0).length till = ((toks bs lv 0).length : Int) := if_neg (fun h => hlt h.2)
      rw [hwn] at HECL
      clear hwn hpos hlt
      go_enter Try.func5, Try.ntmps5
      go_wp2_with (first
        | (go_at_call 9; refine HS1.out.mono ?_; rintro e w2 ⟨A2, c2, rfl, hcs, hb2⟩; obtain ⟨W3, hW3⟩ : ∃ W3, w2.alloc (.cells #[.slice A2 (toks bs lv 0).length c2] 25) = W3 := ⟨_, rfl⟩; have hb3 : Below w.heap.size w W3 := (by rw [← hW3]; exact (HB1.out.trans (hb2.mono HB1.out.size)).alloc (HB1.out.trans (hb2.mono HB1.out.size)).size _); have HB2 := Lib.hid hb2; have HB3 := Lib.hid hb3; have HX3 : Hid (W3.heap[w2.heap.size]? = some (.cells #[.slice A2 (toks bs lv 0).length c2] 25)) := (by show _ = _; rw [← hW3]; exact heap_alloc_new w2 _); have HC3 : Hid (Cells W3 w2.heap.size A2 ((toks bs lv 0).map tkC).flatten) := (by show Cells _ _ _ _; rw [← hW3]; exact hcs.alloc (Nat.le_refl _) _); have HZ3 : Hid (W3.heap.size = w2.heap.size + 1) := (by show _ = _; rw [← hW3]; simp); have HX53 : Hid (W3.heap[w.heap.size]? = some (.cells #[.int .i64 till] 3)) := (by show _ = _; rw [← hW3]; have := hb2.size; have := HZ1.out; exact (Below.heap_alloc _ _ _ (by omega)).trans ((hb2.block _ (by omega)).trans HX1.out)); clear hcs hb2 hb3)
        | (go_at_call 18; refine (HEA.out _ HB3.out).mono ?_; rintro e w4 ⟨A4, c4, b4, rfl, g1, g2, hc4, hby4, hb4, hbl4⟩; obtain ⟨W6, hW6⟩ : ∃ W6, (w4.alloc (.cells #[.int .i64 0] 3)).alloc (.cells #[.bool true] 4) = W6 := ⟨_, rfl⟩; have HB6 : Hid (Below w4.heap.size w4 W6) := (by show Below _ _ _; rw [← hW6]; exact ((Below.refl _ w4).alloc (Nat.le_refl _) _).alloc (by simp) _); have HZ6 : Hid (W6.heap.size = w4.heap.size + 2) := (by show _ = _; rw [← hW6]; simp); have HX9 : Hid (W6.heap[w4.heap.size]? = some (.cells #[.int .i64 0] 3)) := (by show _ = _; rw [← hW6]; exact alloc_keep (heap_alloc_new w4 _) _); have HX10 : Hid (W6.heap[w4.heap.size + 1]? = some (.cells #[.bool true] 4)) := (by show _ = _; rw [← hW6]; have h := heap_alloc_new (w4.alloc (.cells #[.int .i64 0] 3)) (.cells #[.bool true] 4); rwa [World.size_alloc] at h); have G1 := Lib.hid g1; have G2 := Lib.hid g2; have HC4 := Lib.hid hc4; have HBY4 := Lib.hid hby4; have HB4 := Lib.hid hb4; have HBL4 := Lib.hid hbl4; clear g1 g2 hc4 hby4 hb4 hbl4)
        | (go_at_call 28; refine (HECL.out w2 W3 w4 W6 A4 c4 b4 A2 c2 HB2.out HX3.out HC3.out HZ3.out G1.out G2.out HC4.out HBY4.out HB4.out HBL4.out HB6.out HZ6.out HX9.out HX10.out HX53.out (by have := HB2.out.size; have := HZ1.out; omega)).mono ?_; rintro e w7 ⟨⟨v7, rfl⟩, h97, h107, h77, h57, hm7⟩; have k9 := cell_of_row w7 w4.heap.size 0 _ _ _ h97; have k10 := cell_of_row w7 (w4.heap.size + 1) 0 _ _ _ h107; have k7 := cell_of_row w7 w2.heap.size 0 _ _ _ h77; have k5 := cell_of_row w7 w.heap.size 0 _ _ _ h57; have HM7 := Lib.hid hm7; clear h97 h107 h77 h57 hm7)
        | (go_at_call 7; refine (HLV.out _).mono ?_; rintro e w8 ⟨rfl, hb8⟩; have HB8 := Lib.hid hb8; clear hb8))
      go_ret
      have hb3 := HB3.out
      have hb4 := hb3.trans (HBL4.out.mono hb3.size)
      have hb6 := hb4.trans (HB6.out.mono hb4.size)
      have hb7 : Below w.heap.size w w7 := HM7.out.below hb6 hb6.size (fun k hk => by have : k = w4.heap.size := hk; have := hb4.size; omega)
      exact ⟨rfl, hb7.trans (HB8.out.mono hb7.size)⟩

  · have u0 : decide (0 < till) = false := decide_eq_false hpos
    have hwn : wantN (toks bs lv 0).length till = ((toks bs lv 0).length : Int) := if_neg (fun h => hpos h.1)
    rw [hwn] at HECL
    clear hwn hpos
    go_enter Try.func5, Try.ntmps5
    go_wp2_with (first
      | (go_at_call 9; refine HS1.out.mono ?_; rintro e w2 ⟨A2, c2, rfl, hcs, hb2⟩; obtain ⟨W3, hW3⟩ : ∃ W3, w2.alloc (.cells #[.slice A2 (toks bs lv 0).length c2] 25) = W3 := ⟨_, rfl⟩; have hb3 : Below w.heap.size w W3 := (by rw [← hW3]; exact (HB1.out.trans (hb2.mono HB1.out.size)).alloc (HB1.out.trans (hb2.mono HB1.out.size)).size _); have HB2 := Lib.hid hb2; have HB3 := Lib.hid hb3; have HX3 : Hid (W3.heap[w2.heap.size]? = some (.cells #[.slice A2 (toks bs lv 0).length c2] 25)) := (by show _ = _; rw [← hW3]; exact heap_alloc_new w2 _); have HC3 : Hid (Cells W3 w2.heap.size A2 ((toks bs lv 0).map tkC).flatten) := (by show Cells _ _ _ _; rw [← hW3]; exact hcs.alloc (Nat.le_refl _) _); have HZ3 : Hid (W3.heap.size = w2.heap.size + 1) := (by show _ = _; rw [← hW3]; simp); have HX53 : Hid (W3.heap[w.heap.size]? = some (.cells #[.int .i64 till] 3)) := (by show _ = _; rw [← hW3]; have := hb2.size; have := HZ1.out; exact (Below.heap_alloc _ _ _ (by omega)).trans ((hb2.block _ (by omega)).trans HX1.out)); clear hcs hb2 hb3)
      | (go_at_call 18; refine (HEA.out _ HB3.out).mono ?_; rintro e w4 ⟨A4, c4, b4, rfl, g1, g2, hc4, hby4, hb4, hbl4⟩; obtain ⟨W6, hW6⟩ : ∃ W6, (w4.alloc (.cells #[.int .i64 0] 3)).alloc (.cells #[.bool true] 4) = W6 := ⟨_, rfl⟩; have HB6 : Hid (Below w4.heap.size w4 W6) := (by show Below _ _ _; rw [← hW6]; exact ((Below.refl _ w4).alloc (Nat.le_refl _) _).alloc (by simp) _); have HZ6 : Hid (W6.heap.size = w4.heap.size + 2) := (by show _ = _; rw [← hW6]; simp); have HX9 : Hid (W6.heap[w4.heap.size]? = some (.cells #[.int .i64 0] 3)) := (by show _ = _; rw [← hW6]; exact alloc_keep (heap_alloc_new w4 _) _); have HX10 : Hid (W6.heap[w4.heap.size + 1]? = some (.cells #[.bool true] 4)) := (by show _ = _; rw [← hW6]; have h := heap_alloc_new (w4.alloc (.cells #[.int .i64 0] 3)) (.cells #[.bool true] 4); rwa [World.size_alloc] at h); have G1 := Lib.hid g1; have G2 := Lib.hid g2; have HC4 := Lib.hid hc4; have HBY4 := Lib.hid hby4; have HB4 := Lib.hid hb4; have HBL4 := Lib.hid hbl4; clear g1 g2 hc4 hby4 hb4 hbl4)
      | (go_at_call 28; refine (HECL.out w2 W3 w4 W6 A4 c4 b4 A2 c2 HB2.out HX3.out HC3.out HZ3.out G1.out G2.out HC4.out HBY4.out HB4.out HBL4.out HB6.out HZ6.out HX9.out HX10.out HX53.out (by have := HB2.out.size; have := HZ1.out; omega)).mono ?_; rintro e w7 ⟨⟨v7, rfl⟩, h97, h107, h77, h57, hm7⟩; have k9 := cell_of_row w7 w4.heap.size 0 _ _ _ h97; have k10 := cell_of_row w7 (w4.heap.size + 1) 0 _ _ _ h107; have k7 := cell_of_row w7 w2.heap.size 0 _ _ _ h77; have k5 := cell_of_row w7 w.heap.size 0 _ _ _ h57; have HM7 := Lib.hid hm7; clear h97 h107 h77 h57 hm7)
      | (go_at_call 7; refine (HLV.out _).mono ?_; rintro e w8 ⟨rfl, hb8⟩; have HB8 := Lib.hid hb8; clear hb8))
    go_ret
    have hb3 := HB3.out
    have hb4 := hb3.trans (HBL4.out.mono hb3.size)
    have hb6 := hb4.trans (HB6.out.mono hb4.size)
    have hb7 : Below w.heap.size w w7 := HM7.out.below hb6 hb6.size (fun k hk => by have : k = w4.heap.size := hk; have := hb4.size; omega)
    exact ⟨rfl, hb7.trans (HB8.out.mono hb7.size)⟩
end Go.Proofs.Ytdlikfefndogbaa
