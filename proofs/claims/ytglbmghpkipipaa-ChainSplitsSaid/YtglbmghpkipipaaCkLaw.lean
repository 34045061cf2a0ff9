/- Layer 35: the law ChainSplits. -/
import Derived.Test.YtglbmghpkipipaaCkEach
import Derived.Test.YtglbmghpkipipaaCkSpl
import Derived.Test.YtglbmghpkipipaaTkLaw
namespace Go.Proofs.Ytglbmghpkipipaa
open Go.RowKit Go.Shelf

theorem run_equalIn_func_nil {P : Program} (w : World) (d : Nat) (t : TypeId) (ps rs : Array TypeId) (v : Bool) (f : Fn) (ts cs : Array Value) (h : P.underlying t = some (.func ps rs v)) :
    (Op.equalIn (d + 1) t (.func f ts cs) .nilFunc).run P w = .ok false w := by
  simp [Op.equalIn, run_underlying h]
theorem run_eql_func_nil {P : Program} (w : World) (t : TypeId) (ps rs : Array TypeId) (v : Bool) (f : Fn) (ts cs : Array Value) (h : P.underlying t = some (.func ps rs v)) :
    (binOp .eql t (.func f ts cs) .nilFunc).run P w = .ok (.bool false) w := by
  simp only [binOp]
  simp [Op.equal, Op.maxDepth, run_equalIn_func_nil w 9999 t ps rs v f ts cs h]
set_option maxRecDepth 100000 in
set_option maxHeartbeats 4000000 in
theorem csplits_law (A : Option Addr) (l c : Nat) (bs : List UInt8) (lv till : Int) (w : World) (hl : bs.length = l) (hb : Bytes w w.heap.size A bs) :
    Calls Try.prog 3 #[.slice A l c, .int .i64 lv, .int .i64 till] w fun e w' => e = .returned (.bool true) ∧ Below w.heap.size w w' := by
  have HLV := Lib.hid (fun W : World => lives35_any W)
  obtain ⟨W1, hW1⟩ : ∃ W1, w.alloc (.cells #[.int .i64 till] 3) = W1 := ⟨_, rfl⟩
  have HB1 : Hid (Below w.heap.size w W1) := by show Below _ _ _; rw [← hW1]; exact (Below.refl _ w).alloc (Nat.le_refl _) _
  have HZ1 : Hid (W1.heap.size = w.heap.size + 1) := by show _ = _; rw [← hW1]; simp
  have HX1 : Hid (W1.heap[w.heap.size]? = some (.cells #[.int .i64 till] 3)) := by show _ = _; rw [← hW1]; exact heap_alloc_new w _
  by_cases h0 : 400 < l
  · have t0 : decide ((400 : Int) < (l : Int)) = true := decide_eq_true (by omega)
    clear h0 hb
    go_enter Try.func3, Try.ntmps3
    go_wp2_with (go_at_call 5; refine (HLV.out _).mono ?_; rintro e w' ⟨rfl, hb2⟩; have HB2 := Lib.hid hb2; clear hb2)
    go_ret
    exact ⟨rfl, HB1.out.trans (HB2.out.mono HB1.out.size)⟩
  have t0 : decide ((400 : Int) < (l : Int)) = false := decide_eq_false (by omega)
  have HS1 := Lib.hid (rsplit_any A l c bs lv W1 hl (by omega) ((hb.below HB1.out (Nat.le_refl _)).more HB1.out.size))
  have HNE := Lib.hid (fun (Z : World) (h : Below w.heap.size w Z) => cnew_any A l c bs w.heap.size Z hl (by omega) (hb.below h (Nat.le_refl _)) h.size)
  have HEA := Lib.hid (fun (g : Nat) (Z : World) => ceach_any g lv Z)
  have HL := Lib.hid hl
  have HBY := Lib.hid hb
  have hnf : ∀ (Z : World) (cs : Array Value), (binOp .eql 29 (.func (.func 22) #[] cs) .nilFunc).run Try.prog Z = .ok (.bool false) Z := fun Z cs => run_eql_func_nil Z _ _ _ _ _ _ _ Try.underlying29
  have hl2 : l ≤ 400 := by omega
  have hfew := toks_few bs lv
  have HSM := Lib.hid (fun (A1 A2 : Option Addr) (c1 c2 B1 B2 : Nat) (Z : World) (h1 : Cells Z B1 A1 ((toks bs lv 0).map tkC).flatten) (h2 : Cells Z B2 A2 ((toks bs lv 0).map tkC).flatten) => same_any A1 A2 (toks bs lv 0).length c1 c2 B1 B2 (toks bs lv 0) Z rfl (by omega) h1 h2)
  clear hb h0 hl
  have HECL : Hid (∀ (w2 W3 w4 w5 W6 : World) (A2 : Option Addr) (c2 : Nat), Below w.heap.size w W3 → W3.heap[w2.heap.size]? = some (.cells #[.slice A2 (toks bs lv 0).length c2] 24) → Cells W3 w2.heap.size A2 ((toks bs lv 0).map tkC).flatten → W3.heap.size = w2.heap.size + 1 →
      LCh w4 (W3.heap.size + 1) W3.heap.size A l c bs → Below W3.heap.size W3 w4 → Below w4.heap.size w4 w5 → w5.heap.size = w4.heap.size + 2 →
      w5.heap[w4.heap.size]? = some (.cells #[.pointer (some ⟨W3.heap.size + 1, 0, none⟩)] 26) → w5.heap[w4.heap.size + 1]? = some (.cells #[.int .i64 lv] 3) → Below w5.heap.size w5 W6 → W6.heap.size = w5.heap.size + 2 →
      W6.heap[w5.heap.size]? = some (.cells #[.int .i64 0] 3) → W6.heap[w5.heap.size + 1]? = some (.cells #[.bool true] 4) → (W3.heap[w.heap.size]? = some (.cells #[.int .i64 till] 3)) → w.heap.size < w2.heap.size →
      Calls Try.prog 22 #[.func (.func 9) #[] #[.pointer (some ⟨w5.heap.size + 1, 0, none⟩), .pointer (some ⟨w5.heap.size, 0, none⟩), .pointer (some ⟨w2.heap.size, 0, none⟩), .pointer (some ⟨w.heap.size, 0, none⟩)], .pointer (some ⟨w4.heap.size, 0, none⟩), .pointer (some ⟨w4.heap.size + 1, 0, none⟩)] W6
        fun e w7 => (∃ v, e = .returned v) ∧ w7.heap[w5.heap.size]? = some (.cells #[.int .i64 (wantN (toks bs lv 0).length till)] 3) ∧ w7.heap[w5.heap.size + 1]? = some (.cells #[.bool true] 4) ∧ w7.heap[w2.heap.size]? = some (.cells #[.slice A2 (toks bs lv 0).length c2] 24) ∧ w7.heap[w.heap.size]? = some (.cells #[.int .i64 till] 3) ∧ LCh w7 (W3.heap.size + 1) W3.heap.size A l c bs ∧ Cells w7 w2.heap.size A2 ((toks bs lv 0).map tkC).flatten ∧ Below w.heap.size w w7) := by
    intro w2 W3 w4 w5 W6 A2 c2 hb3 hx3 hc3 hz3 hch4 hb4 hb5 hz5 g1 g2 hb6 hz6 hx9 hx10 hx5 hlt5
    have l1 := (Array.getElem?_eq_some_iff.1 g2).1
    have l2 := (Array.getElem?_eq_some_iff.1 hch4.1).1
    have l3 := (Array.getElem?_eq_some_iff.1 hch4.2).1
    have hs4 := hb4.size
    have hb36 : Below W3.heap.size W3 W6 := hb4.trans ((hb5.trans (hb6.mono (by omega))).mono (by omega))
    have hb46 : Below w4.heap.size w4 W6 := hb5.trans (hb6.mono (by omega))
    have hx5' := (hb36.block _ (by omega)).trans hx5
    have hx7' := (hb36.block _ (by omega)).trans hx3
    have hbw := hb3.trans (hb36.mono hb3.size)
    have hc6 := hc3.below (hb36.mono (by omega)) (Nat.le_refl _)
    have hch6 := hch4.below hb46
    have h := ceach_cl w4.heap.size (w4.heap.size + 1) (W3.heap.size + 1) W3.heap.size (w5.heap.size + 1) w5.heap.size w2.heap.size w.heap.size w2.heap.size A A2 l c c2 w.heap.size bs lv till W6 HL.out (by omega) (HBY.out.below hbw (Nat.le_refl _)) (by omega) (by omega) (by omega)
      hch6 (by omega) (by omega) ((hb6.block _ (by omega)).trans g1) ((hb6.block _ (by omega)).trans g2) (by omega) (by omega) hc6 hx10 hx9 hx7' hx5'
    refine h.mono ?_
    rintro e w7 ⟨h1, h2, h3⟩
    refine ⟨h1, h2, h3.keep hx10 (fun e => by have : w5.heap.size + 1 = w5.heap.size := e; omega), h3.keep hx7' (fun e => by have : w2.heap.size = w5.heap.size := e; omega), h3.keep hx5' (fun e => by have : w.heap.size = w5.heap.size := e; omega),
      ⟨h3.keep hch6.1 (fun e => by have : W3.heap.size + 1 = w5.heap.size := e; omega), h3.keep hch6.2 (fun e => by have : W3.heap.size = w5.heap.size := e; omega)⟩, hc6.mod h3 (by omega) (fun k hk => by have : k = w5.heap.size := hk; omega), h3.below hbw hbw.size (fun k hk => by have : k = w5.heap.size := hk; have := hb3.size; omega)⟩
  by_cases hpos : 0 < till
  · have u0 : decide (0 < till) = true := decide_eq_true hpos
    by_cases hlt : till < ((toks bs lv 0).length : Int)
    · have u1 : decide (till < ((toks bs lv 0).length : Int)) = true := decide_eq_true hlt
      have hwn : wantN (toks bs lv 0).length till = till := if_pos ⟨hpos, hlt⟩
      rw [hwn] at HECL
      have u2 : (till == till) = true := by simp
      clear hwn hpos hlt
      go_enter Try.func3, Try.ntmps3
      go_wp2_with (first
        | (go_at_call 6; refine HS1.out.mono ?_; rintro e w2 ⟨A2, c2, rfl, hcs, hb2⟩; obtain ⟨W3, hW3⟩ : ∃ W3, w2.alloc (.cells #[.slice A2 (toks bs lv 0).length c2] 24) = W3 := ⟨_, rfl⟩; have hb3 : Below w.heap.size w W3 := (by rw [← hW3]; exact (HB1.out.trans (hb2.mono HB1.out.size)).alloc (HB1.out.trans (hb2.mono HB1.out.size)).size _); have HB2 := Lib.hid hb2; have HB3 := Lib.hid hb3; have HX3 : Hid (W3.heap[w2.heap.size]? = some (.cells #[.slice A2 (toks bs lv 0).length c2] 24)) := (by show _ = _; rw [← hW3]; exact heap_alloc_new w2 _); have HC3 : Hid (Cells W3 w2.heap.size A2 ((toks bs lv 0).map tkC).flatten) := (by show Cells _ _ _ _; rw [← hW3]; exact hcs.alloc (Nat.le_refl _) _); have HZ3 : Hid (W3.heap.size = w2.heap.size + 1) := (by show _ = _; rw [← hW3]; simp); have HX53 : Hid (W3.heap[w.heap.size]? = some (.cells #[.int .i64 till] 3)) := (by show _ = _; rw [← hW3]; have := hb2.size; have := HZ1.out; exact (Below.heap_alloc _ _ _ (by omega)).trans ((hb2.block _ (by omega)).trans HX1.out)); clear hcs hb2 hb3)
        | (go_at_call 7; refine (HNE.out _ HB3.out).mono ?_; rintro e w4 ⟨rfl, hch, hb4⟩; have HCH4 := Lib.hid hch; have HB4 := Lib.hid hb4; clear hch hb4)
        | (go_at_call 8; refine (HEA.out _ w4).mono ?_; rintro e w5 ⟨rfl, hw5⟩; have HB5 : Hid (Below w4.heap.size w4 w5) := (by show Below _ _ _; rw [← hw5]; exact ((Below.refl _ w4).alloc (Nat.le_refl _) _).alloc (by simp) _); have HZ5 : Hid (w5.heap.size = w4.heap.size + 2) := (by show _ = _; rw [← hw5]; simp); have G1 : Hid (w5.heap[w4.heap.size]? = some (.cells #[.pointer (some ⟨W3.heap.size + 1, 0, none⟩)] 26)) := (by show _ = _; rw [← hw5]; exact alloc_keep (heap_alloc_new w4 _) _); have G2 : Hid (w5.heap[w4.heap.size + 1]? = some (.cells #[.int .i64 lv] 3)) := (by show _ = _; rw [← hw5]; have h := heap_alloc_new (w4.alloc (.cells #[.pointer (some ⟨W3.heap.size + 1, 0, none⟩)] 26)) (.cells #[.int .i64 lv] 3); rwa [World.size_alloc] at h); clear hw5; obtain ⟨W6, hW6⟩ : ∃ W6, (w5.alloc (.cells #[.int .i64 0] 3)).alloc (.cells #[.bool true] 4) = W6 := ⟨_, rfl⟩; have HB6 : Hid (Below w5.heap.size w5 W6) := (by show Below _ _ _; rw [← hW6]; exact ((Below.refl _ w5).alloc (Nat.le_refl _) _).alloc (by simp) _); have HZ6 : Hid (W6.heap.size = w5.heap.size + 2) := (by show _ = _; rw [← hW6]; simp); have HX9 : Hid (W6.heap[w5.heap.size]? = some (.cells #[.int .i64 0] 3)) := (by show _ = _; rw [← hW6]; exact alloc_keep (heap_alloc_new w5 _) _); have HX10 : Hid (W6.heap[w5.heap.size + 1]? = some (.cells #[.bool true] 4)) := (by show _ = _; rw [← hW6]; have h := heap_alloc_new (w5.alloc (.cells #[.int .i64 0] 3)) (.cells #[.bool true] 4); rwa [World.size_alloc] at h))
        | (go_at_call 22; refine (HECL.out w2 W3 w4 w5 W6 A2 c2 HB3.out HX3.out HC3.out HZ3.out HCH4.out HB4.out HB5.out HZ5.out G1.out G2.out HB6.out HZ6.out HX9.out HX10.out HX53.out (by have := HB2.out.size; have := HZ1.out; omega)).mono ?_; rintro e w7 ⟨⟨v7, rfl⟩, h97, h107, h77, h57, hch7, hc7, hb7⟩; have k9 := cell_of_row w7 w5.heap.size 0 _ _ _ h97; have k10 := cell_of_row w7 (w5.heap.size + 1) 0 _ _ _ h107; have k7 := cell_of_row w7 w2.heap.size 0 _ _ _ h77; have k5 := cell_of_row w7 w.heap.size 0 _ _ _ h57; have HCH7 := Lib.hid hch7; have HC7 := Lib.hid hc7; have HB7 := Lib.hid hb7; clear h97 h107 h77 h57 hch7 hc7 hb7))
      have HLN : Hid (LCh w7.drew (W3.heap.size + 1) W3.heap.size A l c bs) := HCH7.out.drewN 1
      have HBD : Hid (Below w.heap.size w w7.drew) := HB7.out.drew
      have HSP := Lib.hid (csplit_any (W3.heap.size + 1) W3.heap.size A l c bs lv w.heap.size w7.drew HL.out (by omega) (HBY.out.below HBD.out (Nat.le_refl _)) HBD.out.size HLN.out)
      have k9d : w7.drew.cell? ⟨w5.heap.size, 0, none⟩ = _ := k9
      have k10d : w7.drew.cell? ⟨w5.heap.size + 1, 0, none⟩ = _ := k10
      have k7d : w7.drew.cell? ⟨w2.heap.size, 0, none⟩ = _ := k7
      have hltd : w2.heap.size < w7.drew.heap.size := World.block_lt_of_cell? w7 _ k7
      have HC7D : Hid (Cells w7.drew w2.heap.size A2 ((toks bs lv 0).map tkC).flatten) := HC7.out.drew
      clear hW6
      go_region_with (first
        | (go_at_call 11; refine HSP.out.mono ?_; rintro e w8 ⟨A8, c8, rfl, hcs8, hb8⟩; have k78 := (hb8.cell (p := ⟨w2.heap.size, 0, none⟩) hltd).trans k7d; have HC8 := Lib.hid hcs8; have HB8 := Lib.hid hb8; clear hcs8 hb8)
        | (go_at_call 10; refine (HSM.out _ _ _ _ _ _ _ HC8.out (HC7D.out.below HB8.out (Nat.le_of_lt hltd))).mono ?_; rintro e w9 ⟨rfl, hb9⟩; have HB9 := Lib.hid hb9; clear hb9)
        | (go_at_call 5; refine (HLV.out _).mono ?_; rintro e w10 ⟨rfl, hb10⟩; have HB10 := Lib.hid hb10; clear hb10))
      all_goals (go_wp2; go_ret; exact ⟨rfl, HBD.out.trans ((HB8.out.trans ((HB9.out.trans (HB10.out.mono HB9.out.size)).mono HB8.out.size)).mono HBD.out.size)⟩)
    · have u1 : decide (till < ((toks bs lv 0).length : Int)) = false := decide_eq_false hlt
      have hwn : wantN (toks bs lv 0).length till = ((toks bs lv 0).length : Int) := if_neg (fun h => hlt h.2)
      rw [hwn] at HECL
      clear hwn hpos hlt
      go_enter Try.func3, Try.ntmps3
      go_wp2_with (first
        | (go_at_call 6; refine HS1.out.mono ?_; rintro e w2 ⟨A2, c2, rfl, hcs, hb2⟩; obtain ⟨W3, hW3⟩ : ∃ W3, w2.alloc (.cells #[.slice A2 (toks bs lv 0).length c2] 24) = W3 := ⟨_, rfl⟩; have hb3 : Below w.heap.size w W3 := (by rw [← hW3]; exact (HB1.out.trans (hb2.mono HB1.out.size)).alloc (HB1.out.trans (hb2.mono HB1.out.size)).size _); have HB2 := Lib.hid hb2; have HB3 := Lib.hid hb3; have HX3 : Hid (W3.heap[w2.heap.size]? = some (.cells #[.slice A2 (toks bs lv 0).length c2] 24)) := (by show _ = _; rw [← hW3]; exact heap_alloc_new w2 _); have HC3 : Hid (Cells W3 w2.heap.size A2 ((toks bs lv 0).map tkC).flatten) := (by show Cells _ _ _ _; rw [← hW3]; exact hcs.alloc (Nat.le_refl _) _); have HZ3 : Hid (W3.heap.size = w2.heap.size + 1) := (by show _ = _; rw [← hW3]; simp); have HX53 : Hid (W3.heap[w.heap.size]? = some (.cells #[.int .i64 till] 3)) := (by show _ = _; rw [← hW3]; have := hb2.size; have := HZ1.out; exact (Below.heap_alloc _ _ _ (by omega)).trans ((hb2.block _ (by omega)).trans HX1.out)); clear hcs hb2 hb3)
        | (go_at_call 7; refine (HNE.out _ HB3.out).mono ?_; rintro e w4 ⟨rfl, hch, hb4⟩; have HCH4 := Lib.hid hch; have HB4 := Lib.hid hb4; clear hch hb4)
        | (go_at_call 8; refine (HEA.out _ w4).mono ?_; rintro e w5 ⟨rfl, hw5⟩; have HB5 : Hid (Below w4.heap.size w4 w5) := (by show Below _ _ _; rw [← hw5]; exact ((Below.refl _ w4).alloc (Nat.le_refl _) _).alloc (by simp) _); have HZ5 : Hid (w5.heap.size = w4.heap.size + 2) := (by show _ = _; rw [← hw5]; simp); have G1 : Hid (w5.heap[w4.heap.size]? = some (.cells #[.pointer (some ⟨W3.heap.size + 1, 0, none⟩)] 26)) := (by show _ = _; rw [← hw5]; exact alloc_keep (heap_alloc_new w4 _) _); have G2 : Hid (w5.heap[w4.heap.size + 1]? = some (.cells #[.int .i64 lv] 3)) := (by show _ = _; rw [← hw5]; have h := heap_alloc_new (w4.alloc (.cells #[.pointer (some ⟨W3.heap.size + 1, 0, none⟩)] 26)) (.cells #[.int .i64 lv] 3); rwa [World.size_alloc] at h); clear hw5; obtain ⟨W6, hW6⟩ : ∃ W6, (w5.alloc (.cells #[.int .i64 0] 3)).alloc (.cells #[.bool true] 4) = W6 := ⟨_, rfl⟩; have HB6 : Hid (Below w5.heap.size w5 W6) := (by show Below _ _ _; rw [← hW6]; exact ((Below.refl _ w5).alloc (Nat.le_refl _) _).alloc (by simp) _); have HZ6 : Hid (W6.heap.size = w5.heap.size + 2) := (by show _ = _; rw [← hW6]; simp); have HX9 : Hid (W6.heap[w5.heap.size]? = some (.cells #[.int .i64 0] 3)) := (by show _ = _; rw [← hW6]; exact alloc_keep (heap_alloc_new w5 _) _); have HX10 : Hid (W6.heap[w5.heap.size + 1]? = some (.cells #[.bool true] 4)) := (by show _ = _; rw [← hW6]; have h := heap_alloc_new (w5.alloc (.cells #[.int .i64 0] 3)) (.cells #[.bool true] 4); rwa [World.size_alloc] at h))
        | (go_at_call 22; refine (HECL.out w2 W3 w4 w5 W6 A2 c2 HB3.out HX3.out HC3.out HZ3.out HCH4.out HB4.out HB5.out HZ5.out G1.out G2.out HB6.out HZ6.out HX9.out HX10.out HX53.out (by have := HB2.out.size; have := HZ1.out; omega)).mono ?_; rintro e w7 ⟨⟨v7, rfl⟩, h97, h107, h77, h57, hch7, hc7, hb7⟩; have k9 := cell_of_row w7 w5.heap.size 0 _ _ _ h97; have k10 := cell_of_row w7 (w5.heap.size + 1) 0 _ _ _ h107; have k7 := cell_of_row w7 w2.heap.size 0 _ _ _ h77; have k5 := cell_of_row w7 w.heap.size 0 _ _ _ h57; have HCH7 := Lib.hid hch7; have HC7 := Lib.hid hc7; have HB7 := Lib.hid hb7; clear h97 h107 h77 h57 hch7 hc7 hb7))
      have HLN : Hid (LCh w7.drew (W3.heap.size + 1) W3.heap.size A l c bs) := HCH7.out.drewN 1
      have HBD : Hid (Below w.heap.size w w7.drew) := HB7.out.drew
      have HSP := Lib.hid (csplit_any (W3.heap.size + 1) W3.heap.size A l c bs lv w.heap.size w7.drew HL.out (by omega) (HBY.out.below HBD.out (Nat.le_refl _)) HBD.out.size HLN.out)
      have k9d : w7.drew.cell? ⟨w5.heap.size, 0, none⟩ = _ := k9
      have k10d : w7.drew.cell? ⟨w5.heap.size + 1, 0, none⟩ = _ := k10
      have k7d : w7.drew.cell? ⟨w2.heap.size, 0, none⟩ = _ := k7
      have hltd : w2.heap.size < w7.drew.heap.size := World.block_lt_of_cell? w7 _ k7
      have HC7D : Hid (Cells w7.drew w2.heap.size A2 ((toks bs lv 0).map tkC).flatten) := HC7.out.drew
      clear hW6
      go_region_with (first
        | (go_at_call 11; refine HSP.out.mono ?_; rintro e w8 ⟨A8, c8, rfl, hcs8, hb8⟩; have k78 := (hb8.cell (p := ⟨w2.heap.size, 0, none⟩) hltd).trans k7d; have HC8 := Lib.hid hcs8; have HB8 := Lib.hid hb8; clear hcs8 hb8)
        | (go_at_call 10; refine (HSM.out _ _ _ _ _ _ _ HC8.out (HC7D.out.below HB8.out (Nat.le_of_lt hltd))).mono ?_; rintro e w9 ⟨rfl, hb9⟩; have HB9 := Lib.hid hb9; clear hb9)
        | (go_at_call 5; refine (HLV.out _).mono ?_; rintro e w10 ⟨rfl, hb10⟩; have HB10 := Lib.hid hb10; clear hb10))
      all_goals (go_wp2; go_ret; exact ⟨rfl, HBD.out.trans ((HB8.out.trans ((HB9.out.trans (HB10.out.mono HB9.out.size)).mono HB8.out.size)).mono HBD.out.size)⟩)
  · have u0 : decide (0 < till) = false := decide_eq_false hpos
    have hwn : wantN (toks bs lv 0).length till = ((toks bs lv 0).length : Int) := if_neg (fun h => hpos h.1)
    rw [hwn] at HECL
    clear hwn hpos
    go_enter Try.func3, Try.ntmps3
    go_wp2_with (first
      | (go_at_call 6; refine HS1.out.mono ?_; rintro e w2 ⟨A2, c2, rfl, hcs, hb2⟩; obtain ⟨W3, hW3⟩ : ∃ W3, w2.alloc (.cells #[.slice A2 (toks bs lv 0).length c2] 24) = W3 := ⟨_, rfl⟩; have hb3 : Below w.heap.size w W3 := (by rw [← hW3]; exact (HB1.out.trans (hb2.mono HB1.out.size)).alloc (HB1.out.trans (hb2.mono HB1.out.size)).size _); have HB2 := Lib.hid hb2; have HB3 := Lib.hid hb3; have HX3 : Hid (W3.heap[w2.heap.size]? = some (.cells #[.slice A2 (toks bs lv 0).length c2] 24)) := (by show _ = _; rw [← hW3]; exact heap_alloc_new w2 _); have HC3 : Hid (Cells W3 w2.heap.size A2 ((toks bs lv 0).map tkC).flatten) := (by show Cells _ _ _ _; rw [← hW3]; exact hcs.alloc (Nat.le_refl _) _); have HZ3 : Hid (W3.heap.size = w2.heap.size + 1) := (by show _ = _; rw [← hW3]; simp); have HX53 : Hid (W3.heap[w.heap.size]? = some (.cells #[.int .i64 till] 3)) := (by show _ = _; rw [← hW3]; have := hb2.size; have := HZ1.out; exact (Below.heap_alloc _ _ _ (by omega)).trans ((hb2.block _ (by omega)).trans HX1.out)); clear hcs hb2 hb3)
      | (go_at_call 7; refine (HNE.out _ HB3.out).mono ?_; rintro e w4 ⟨rfl, hch, hb4⟩; have HCH4 := Lib.hid hch; have HB4 := Lib.hid hb4; clear hch hb4)
      | (go_at_call 8; refine (HEA.out _ w4).mono ?_; rintro e w5 ⟨rfl, hw5⟩; have HB5 : Hid (Below w4.heap.size w4 w5) := (by show Below _ _ _; rw [← hw5]; exact ((Below.refl _ w4).alloc (Nat.le_refl _) _).alloc (by simp) _); have HZ5 : Hid (w5.heap.size = w4.heap.size + 2) := (by show _ = _; rw [← hw5]; simp); have G1 : Hid (w5.heap[w4.heap.size]? = some (.cells #[.pointer (some ⟨W3.heap.size + 1, 0, none⟩)] 26)) := (by show _ = _; rw [← hw5]; exact alloc_keep (heap_alloc_new w4 _) _); have G2 : Hid (w5.heap[w4.heap.size + 1]? = some (.cells #[.int .i64 lv] 3)) := (by show _ = _; rw [← hw5]; have h := heap_alloc_new (w4.alloc (.cells #[.pointer (some ⟨W3.heap.size + 1, 0, none⟩)] 26)) (.cells #[.int .i64 lv] 3); rwa [World.size_alloc] at h); clear hw5; obtain ⟨W6, hW6⟩ : ∃ W6, (w5.alloc (.cells #[.int .i64 0] 3)).alloc (.cells #[.bool true] 4) = W6 := ⟨_, rfl⟩; have HB6 : Hid (Below w5.heap.size w5 W6) := (by show Below _ _ _; rw [← hW6]; exact ((Below.refl _ w5).alloc (Nat.le_refl _) _).alloc (by simp) _); have HZ6 : Hid (W6.heap.size = w5.heap.size + 2) := (by show _ = _; rw [← hW6]; simp); have HX9 : Hid (W6.heap[w5.heap.size]? = some (.cells #[.int .i64 0] 3)) := (by show _ = _; rw [← hW6]; exact alloc_keep (heap_alloc_new w5 _) _); have HX10 : Hid (W6.heap[w5.heap.size + 1]? = some (.cells #[.bool true] 4)) := (by show _ = _; rw [← hW6]; have h := heap_alloc_new (w5.alloc (.cells #[.int .i64 0] 3)) (.cells #[.bool true] 4); rwa [World.size_alloc] at h))
      | (go_at_call 22; refine (HECL.out w2 W3 w4 w5 W6 A2 c2 HB3.out HX3.out HC3.out HZ3.out HCH4.out HB4.out HB5.out HZ5.out G1.out G2.out HB6.out HZ6.out HX9.out HX10.out HX53.out (by have := HB2.out.size; have := HZ1.out; omega)).mono ?_; rintro e w7 ⟨⟨v7, rfl⟩, h97, h107, h77, h57, hch7, hc7, hb7⟩; have k9 := cell_of_row w7 w5.heap.size 0 _ _ _ h97; have k10 := cell_of_row w7 (w5.heap.size + 1) 0 _ _ _ h107; have k7 := cell_of_row w7 w2.heap.size 0 _ _ _ h77; have k5 := cell_of_row w7 w.heap.size 0 _ _ _ h57; have HCH7 := Lib.hid hch7; have HC7 := Lib.hid hc7; have HB7 := Lib.hid hb7; clear h97 h107 h77 h57 hch7 hc7 hb7))
    have HLN : Hid (LCh w7.drew (W3.heap.size + 1) W3.heap.size A l c bs) := HCH7.out.drewN 1
    have HBD : Hid (Below w.heap.size w w7.drew) := HB7.out.drew
    have HSP := Lib.hid (csplit_any (W3.heap.size + 1) W3.heap.size A l c bs lv w.heap.size w7.drew HL.out (by omega) (HBY.out.below HBD.out (Nat.le_refl _)) HBD.out.size HLN.out)
    have k9d : w7.drew.cell? ⟨w5.heap.size, 0, none⟩ = _ := k9
    have k10d : w7.drew.cell? ⟨w5.heap.size + 1, 0, none⟩ = _ := k10
    have k7d : w7.drew.cell? ⟨w2.heap.size, 0, none⟩ = _ := k7
    have hltd : w2.heap.size < w7.drew.heap.size := World.block_lt_of_cell? w7 _ k7
    have HC7D : Hid (Cells w7.drew w2.heap.size A2 ((toks bs lv 0).map tkC).flatten) := HC7.out.drew
    clear hW6
    go_region_with (first
      | (go_at_call 11; refine HSP.out.mono ?_; rintro e w8 ⟨A8, c8, rfl, hcs8, hb8⟩; have k78 := (hb8.cell (p := ⟨w2.heap.size, 0, none⟩) hltd).trans k7d; have HC8 := Lib.hid hcs8; have HB8 := Lib.hid hb8; clear hcs8 hb8)
      | (go_at_call 10; refine (HSM.out _ _ _ _ _ _ _ HC8.out (HC7D.out.below HB8.out (Nat.le_of_lt hltd))).mono ?_; rintro e w9 ⟨rfl, hb9⟩; have HB9 := Lib.hid hb9; clear hb9)
      | (go_at_call 5; refine (HLV.out _).mono ?_; rintro e w10 ⟨rfl, hb10⟩; have HB10 := Lib.hid hb10; clear hb10))
    all_goals (go_wp2; go_ret; exact ⟨rfl, HBD.out.trans ((HB8.out.trans ((HB9.out.trans (HB10.out.mono HB9.out.size)).mono HB8.out.size)).mono HBD.out.size)⟩)
end Go.Proofs.Ytglbmghpkipipaa
