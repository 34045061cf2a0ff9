/- Layer 20: a whole directory is read and written. -/
import Derived.Test.YthnoobhjkhafcaaDoorFtL
import Derived.Test.YthnoobhjkhafcaaDoorEnPl
namespace Go.Proofs.YthnoobhjkhafcaaDoor
open Go.RowKit CrcP FieldP
attribute [local go_sem ↓] Go.wp_at_zero Go.wp_at_succ

/-- The numbers of the foot that bytes end with. -/
def ftN (bs : List UInt8) (k : Nat) : Nat := vaK bs (openS bs (bs.length - 20)) k
/-- What foot.Take tells of bytes. -/
def ftR (bs : List UInt8) : Nat := if bs.length < 20 then 2 else if isB footBytes bs (bs.length - 20 : Nat) = false then 3 else if threeR bs (bs.length - 20) ≠ 0 then threeR bs (bs.length - 20) else if ftB (ftN bs 0 : Nat) (ftN bs 1 : Nat) = false then 3 else 0
theorem ftN_lt (bs : List UInt8) (k : Nat) : ftN bs k < 4294967296 := num_lt (Nat.le_refl _)

set_option maxHeartbeats 1000000 in
theorem ftTake_short (tg : Nat) (A : Option Addr) (l c : Nat) (w : World) (h : l < 20) :
    Calls Tryd.prog 37 #[.pointer (some ⟨tg, 0, none⟩), .slice A l c] w fun e w' => e = .returned (.tuple #[.agg #[.int .i64 0, .int .i64 0, .int .u32 0], .int .i64 2]) ∧ Below w.heap.size w w' := by
  have hd : decide ((l : Int) < 20) = true := by simp; omega
  clear h
  go_enter Tryd.func37, Tryd.ntmps37
  go_wp2
  exact bodyPost_ret (v := .tuple #[.agg #[.int .i64 0, .int .i64 0, .int .u32 0], .int .i64 2]) (by simp [results, Tryd.results37, go_sem]) rfl ⟨rfl, (Below.refl _ _).alloc (Nat.le_refl _) _⟩
set_option maxRecDepth 100000 in
set_option maxHeartbeats 1000000 in
theorem ftTake_err (tg : Nat) (A : Option Addr) (l c p : Nat) (r : Nat) (w : World) (hp : p + 20 = l) (hm : l ≤ 1099511627776) (hr : r ≠ 0)
    (HT : Calls Tryd.prog 51 #[.pointer (some ⟨tg, 0, none⟩), .string footMark, .slice A l c, .int .i64 (p : Int)] (w.alloc (.cells #[.int .i64 0, .int .i64 0, .int .u32 0] 61)) fun e w' => e = .returned (.tuple #[.agg #[.int .u32 0, .int .u32 0, .int .u32 0], .int .i64 (r : Nat)]) ∧ Below (w.alloc (.cells #[.int .i64 0, .int .i64 0, .int .u32 0] 61)).heap.size (w.alloc (.cells #[.int .i64 0, .int .i64 0, .int .u32 0] 61)) w') :
    Calls Tryd.prog 37 #[.pointer (some ⟨tg, 0, none⟩), .slice A l c] w fun e w' => e = .returned (.tuple #[.agg #[.int .i64 0, .int .i64 0, .int .u32 0], .int .i64 (r : Nat)]) ∧ Below w.heap.size w w' := by
  have HTT := Lib.hid HT
  have hlp : (l : Int) - 20 = (p : Int) := by omega
  have hl20 : ¬ (l : Int) < 20 := by omega
  have hne : ((r : Int) != 0) = true := by simp; omega
  have HX0 : Hid (Box (w.alloc (.cells #[.int .i64 0, .int .i64 0, .int .u32 0] 61)) w.heap.size #[.int .i64 0, .int .i64 0, .int .u32 0] 61) := heap_alloc_new w _
  have HB0 := Lib.hid ((Below.refl w.heap.size w).alloc (Nat.le_refl _) (.cells #[.int .i64 0, .int .i64 0, .int .u32 0] 61))
  have HZ0 : Hid ((w.alloc (.cells #[.int .i64 0, .int .i64 0, .int .u32 0] 61)).heap.size = w.heap.size + 1) := by show _ = _; simp
  clear HT hp hr
  go_enter Tryd.func37, Tryd.ntmps37
  go_wp2_with (go_at_call 51; refine HTT.out.mono ?_; rintro e w1 ⟨rfl, hbw⟩; have HX1 := Lib.hid (HX0.out.below hbw (by rw [HZ0.out]; omega)); have HB1 := Lib.hid (HB0.out.trans (hbw.mono (by rw [HZ0.out]; omega))); clear hbw; have hx0 : w1.cell? ⟨w.heap.size, 0, none⟩ = some (.int .i64 0) := HX1.out.cell 0; have hx1 : w1.cell? ⟨w.heap.size, 1, none⟩ = some (.int .i64 0) := HX1.out.cell 1; have hx2 : w1.cell? ⟨w.heap.size, 2, none⟩ = some (.int .u32 0) := HX1.out.cell 2; have hf0 := frozen_of_row w1 w.heap.size 0 _ _ HX1.out; have hf1 := frozen_of_row w1 w.heap.size 1 _ _ HX1.out; have hf2 := frozen_of_row w1 w.heap.size 2 _ _ HX1.out; have hz1 : w.heap.size < w1.heap.size := HX1.out.lt)
  have HXS := Lib.hid (Box.alloc (((HX1.out.set (i := 0) (.int .i64 0)).set (i := 1) (.int .i64 0)).set (i := 2) (.int .u32 0)) (.cells #[.int .u32 0, .int .u32 0, .int .u32 0] 78))
  have HBS := Lib.hid (Below.alloc (Below.setCell (Below.setCell (Below.setCell HB1.out (p := ⟨w.heap.size, 0, none⟩) (Nat.le_refl _) (.int .i64 0)) (p := ⟨w.heap.size, 1, none⟩) (Nat.le_refl _) (.int .i64 0)) (p := ⟨w.heap.size, 2, none⟩) (Nat.le_refl _) (.int .u32 0)) (Below.size (Below.setCell (Below.setCell (Below.setCell HB1.out (p := ⟨w.heap.size, 0, none⟩) (Nat.le_refl _) (.int .i64 0)) (p := ⟨w.heap.size, 1, none⟩) (Nat.le_refl _) (.int .i64 0)) (p := ⟨w.heap.size, 2, none⟩) (Nat.le_refl _) (.int .u32 0))) (.cells #[.int .u32 0, .int .u32 0, .int .u32 0] 78))
  generalize (((w1.setCell ⟨w.heap.size, 0, none⟩ (.int .i64 0)).setCell ⟨w.heap.size, 1, none⟩ (.int .i64 0)).setCell ⟨w.heap.size, 2, none⟩ (.int .u32 0)).alloc (.cells #[.int .u32 0, .int .u32 0, .int .u32 0] 78) = W at *
  have hq0 : W.cell? ⟨w.heap.size, 0, none⟩ = some (.int .i64 0) := HXS.out.cell 0
  have hq1 : W.cell? ⟨w.heap.size, 1, none⟩ = some (.int .i64 0) := HXS.out.cell 1
  have hq2 : W.cell? ⟨w.heap.size, 2, none⟩ = some (.int .u32 0) := HXS.out.cell 2
  exact bodyPost_ret (v := .tuple #[.agg #[.int .i64 0, .int .i64 0, .int .u32 0], .int .i64 (r : Nat)]) (by simp [results, Tryd.results37, hq0, hq1, hq2, go_sem]) rfl ⟨rfl, HBS.out⟩
set_option maxRecDepth 100000 in
set_option maxHeartbeats 1000000 in
theorem ftTake_wrong (tg : Nat) (A : Option Addr) (l c : Nat) (bs : List UInt8) (B : Nat) (p x y z : Nat) (w : World) (hT : Table w tg) (hl : bs.length = l) (hm : l ≤ 1099511627776) (hlc : l ≤ c) (hp : p + 20 = l)
    (hb : Bytes w B A bs) (hB : B ≤ w.heap.size) (hi : isB footBytes bs p = true) (h3 : threeR bs p = 0) (h0 : vaK bs (openS bs p) 0 = x) (h1 : vaK bs (openS bs p) 1 = y) (h2 : vaK bs (openS bs p) 2 = z) (hf : ftB x y = false) :
    Calls Tryd.prog 37 #[.pointer (some ⟨tg, 0, none⟩), .slice A l c] w fun e w' => e = .returned (.tuple #[.agg #[.int .i64 0, .int .i64 0, .int .u32 0], .int .i64 3]) ∧ Below w.heap.size w w' := by
  have HT := Lib.hid (take3_ok tg footMark A l c bs B p _ (hT.alloc (.cells #[.int .i64 0, .int .i64 0, .int .u32 0] 61)) (by decide) hl hm hlc (hb.alloc hB (.cells #[.int .i64 0, .int .i64 0, .int .u32 0] 61)) (by simp; omega) (by omega) (fun _ => hi))
  rw [take3V_good h3, h0, h1, h2] at HT
  have HFR := Lib.hid (fun W => ftRight_any x y z W)
  rw [hf] at HFR
  have hlp : (l : Int) - 20 = (p : Int) := by omega
  have hl20 : ¬ (l : Int) < 20 := by omega
  have HX0 : Hid (Box (w.alloc (.cells #[.int .i64 0, .int .i64 0, .int .u32 0] 61)) w.heap.size #[.int .i64 0, .int .i64 0, .int .u32 0] 61) := heap_alloc_new w _
  have HB0 := Lib.hid ((Below.refl w.heap.size w).alloc (Nat.le_refl _) (.cells #[.int .i64 0, .int .i64 0, .int .u32 0] 61))
  have HZ0 : Hid ((w.alloc (.cells #[.int .i64 0, .int .i64 0, .int .u32 0] 61)).heap.size = w.heap.size + 1) := by show _ = _; simp
  have hx32 : (x : Int) < 4294967296 := by { have : x < 4294967296 := by { rw [← h0]; exact num_lt (Nat.le_refl _) }; omega }
  have hy32 : (y : Int) < 4294967296 := by { have : y < 4294967296 := by { rw [← h1]; exact num_lt (Nat.le_refl _) }; omega }
  have hz32 : (z : Int) < 4294967296 := by { have : z < 4294967296 := by { rw [← h2]; exact num_lt (Nat.le_refl _) }; omega }
  clear hi h3 h0 h1 h2 hf hT hb hl hp
  go_enter Tryd.func37, Tryd.ntmps37
  go_wp2_with (go_at_call 51; refine HT.out.mono ?_; rintro e w1 ⟨rfl, hbw⟩; have HX1 := Lib.hid (HX0.out.below hbw (by rw [HZ0.out]; omega)); have HB1 := Lib.hid (HB0.out.trans (hbw.mono (by rw [HZ0.out]; omega))); clear hbw; have hx0 : w1.cell? ⟨w.heap.size, 0, none⟩ = some (.int .i64 0) := HX1.out.cell 0; have hx1 : w1.cell? ⟨w.heap.size, 1, none⟩ = some (.int .i64 0) := HX1.out.cell 1; have hx2 : w1.cell? ⟨w.heap.size, 2, none⟩ = some (.int .u32 0) := HX1.out.cell 2; have hf0 := frozen_of_row w1 w.heap.size 0 _ _ HX1.out; have hf1 := frozen_of_row w1 w.heap.size 1 _ _ HX1.out; have hf2 := frozen_of_row w1 w.heap.size 2 _ _ HX1.out; have hz1 : w.heap.size < w1.heap.size := HX1.out.lt)
  refine (HFR.out _).mono ?_
  rintro e w2 ⟨rfl, hw2⟩
  have HX2 : Hid (Box w2 w.heap.size #[.int .i64 0, .int .i64 0, .int .u32 0] 61) := by (rw [← hw2]; exact ((HX1.out.alloc _).alloc _).alloc _)
  have HB2 : Hid (Below w.heap.size w w2) := by (rw [← hw2]; exact ((HB1.out.alloc HB1.out.size _).alloc (by simp; omega) _).alloc (by simp; omega) _)
  clear hw2 hx0 hx1 hx2 hf0 hf1 hf2
  have hx0 : w2.cell? ⟨w.heap.size, 0, none⟩ = some (.int .i64 0) := HX2.out.cell 0
  have hx1 : w2.cell? ⟨w.heap.size, 1, none⟩ = some (.int .i64 0) := HX2.out.cell 1
  have hx2 : w2.cell? ⟨w.heap.size, 2, none⟩ = some (.int .u32 0) := HX2.out.cell 2
  have hf0 := frozen_of_row w2 w.heap.size 0 _ _ HX2.out
  have hf1 := frozen_of_row w2 w.heap.size 1 _ _ HX2.out
  have hf2 := frozen_of_row w2 w.heap.size 2 _ _ HX2.out
  go_wp2
  refine bodyPost_ret (v := .tuple #[.agg #[.int .i64 0, .int .i64 0, .int .u32 0], .int .i64 3]) (by simp [results, Tryd.results37, hx0, hx1, hx2, go_sem]) rfl ⟨rfl, ?_⟩
  exact (((HB2.out.setCell (p := ⟨w.heap.size, 0, none⟩) (Nat.le_refl _) _).setCell (p := ⟨w.heap.size, 1, none⟩) (Nat.le_refl _) _).setCell (p := ⟨w.heap.size, 2, none⟩) (Nat.le_refl _) _)
/-- foot.Take over any bytes. -/
theorem ftTake_any (tg : Nat) (A : Option Addr) (l c : Nat) (bs : List UInt8) (B : Nat) (w : World) (hT : Table w tg) (hl : bs.length = l) (hm : l ≤ 1099511627776) (hlc : l ≤ c) (hb : Bytes w B A bs) (hB : B ≤ w.heap.size) :
    Calls Tryd.prog 37 #[.pointer (some ⟨tg, 0, none⟩), .slice A l c] w fun e w' => e = .returned (if ftR bs = 0 then .tuple #[.agg #[.int .i64 (ftN bs 0 : Nat), .int .i64 (ftN bs 1 : Nat), .int .u32 (ftN bs 2 : Nat)], .int .i64 0] else .tuple #[.agg #[.int .i64 0, .int .i64 0, .int .u32 0], .int .i64 (ftR bs : Nat)]) ∧ Below w.heap.size w w' := by
  by_cases h20 : l < 20
  · have e : ftR bs = 2 := by unfold ftR; rw [if_pos (by omega)]
    rw [e]
    exact ftTake_short tg A l c w h20
  obtain ⟨p, hp⟩ : ∃ p, bs.length - 20 = p := ⟨_, rfl⟩
  have hN : ∀ k, ftN bs k = vaK bs (openS bs p) k := fun k => by unfold ftN; rw [hp]
  have hR : ftR bs = if isB footBytes bs (p : Nat) = false then 3 else if threeR bs p ≠ 0 then threeR bs p else if ftB (ftN bs 0 : Nat) (ftN bs 1 : Nat) = false then 3 else 0 := by unfold ftR; rw [if_neg (by omega), hp]
  cases hi : isB footBytes bs (p : Nat) with
  | false =>
    have e : ftR bs = 3 := by rw [hR, if_pos hi]
    rw [e]
    exact ftTake_err tg A l c p 3 w (by omega) hm (by decide) (take3_form tg footMark A l c bs B p _ (by decide) hl hm hlc (hb.alloc hB _) (by simp; omega) (by omega) hi)
  | true =>
  rw [hi, if_neg (by decide)] at hR
  by_cases h3 : threeR bs p = 0
  · rw [if_neg (by simpa using h3)] at hR
    cases hf : ftB (ftN bs 0 : Nat) (ftN bs 1 : Nat) with
    | false =>
      have e : ftR bs = 3 := by rw [hR, if_pos hf]
      rw [e]
      exact ftTake_wrong tg A l c bs B p _ _ _ w hT hl hm hlc (by omega) hb hB hi h3 rfl rfl rfl (by rw [← hN, ← hN]; exact hf)
    | true =>
      have e : ftR bs = 0 := by rw [hR, hf]; rfl
      rw [e, if_pos rfl]
      have := ftTake_good tg A l c bs B p _ _ _ w hT hl hm hlc (by omega) hb hB hi h3 rfl rfl rfl (by rw [← hN, ← hN]; exact hf)
      rw [← hN, ← hN, ← hN] at this
      exact this
  · have e : ftR bs = threeR bs p := by rw [hR, if_pos h3]
    rw [e, if_neg h3]
    have := take3_ok tg footMark A l c bs B p _ (hT.alloc (.cells #[.int .i64 0, .int .i64 0, .int .u32 0] 61)) (by decide) hl hm hlc (hb.alloc hB (.cells #[.int .i64 0, .int .i64 0, .int .u32 0] 61)) (by simp; omega) (by omega) (fun _ => hi)
    rw [take3V_bad h3] at this
    exact ftTake_err tg A l c p _ w (by omega) hm h3 this
end Go.Proofs.YthnoobhjkhafcaaDoor
