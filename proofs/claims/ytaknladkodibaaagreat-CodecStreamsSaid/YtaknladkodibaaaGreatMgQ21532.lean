/- Layer 10: the candidates, as an iterator tells them. -/
import Derived.Test.YtaknladkodibaaaGreatMgQ21521
import Derived.Test.YtaknladkodibaaaGreatMgQ21516
import Derived.Laws.Cover3
import Derived.Stop.BytesEq
import Derived.Sort.QuietIn
import Derived.Lib.Hide
import Derived.Below
import Derived.Maps.OwnSet
import Derived.Maps.Views
import Derived.DeepKeys4
import Derived.MakeChecks
import Derived.RegionTactic
import Derived.Deep.LoopGhost
import Derived.BigQuiet
namespace Go.Proofs.YtaknladkodibaaaGreat
open Go.RowKit Go.Shelf
attribute [local go_sem] Oper.semAt_some

/-- May a match begin there? -/
def begM (l : Nat) (a : Int) : Bool := decide (0 ≤ a) && decide (a ≤ (l : Int) - 3)
set_option maxHeartbeats 400000 in
theorem begins_any (A : Option Addr) (l c : Nat) (a : Int) (w : World) (hm : l ≤ 1099511627776) :
    Calls Tryz.prog 63 #[.slice A l c, .int .i64 a] w fun e w' => e = .returned (.bool (begM l a)) ∧ w = w' := by
  by_cases h0 : 0 ≤ a
  · have HB : Hid (begM l a = decide (a ≤ (l : Int) - 3)) := by show _ = _; rw [begM, decide_eq_true h0, Bool.true_and]
    have hd : decide (0 ≤ a) = true := decide_eq_true h0
    clear h0
    go_enter Tryz.func63, Tryz.ntmps63
    go_wp2
    go_ret
    exact ⟨by rw [HB.out]; rfl, rfl⟩
  · have HB : Hid (begM l a = false) := by show _ = _; rw [begM, decide_eq_false h0, Bool.false_and]
    have hd : decide (0 ≤ a) = false := decide_eq_false h0
    clear h0
    go_enter Tryz.func63, Tryz.ntmps63
    go_wp2
    go_ret
    exact ⟨by rw [HB.out]; rfl, rfl⟩
/-- The cells of all blocks but those of S stay. -/
def KeepC (S : Nat → Prop) (W W' : World) : Prop := ∀ k o, W.heap[k]? = some o → o.isCells = true → ¬ S k → W'.heap[k]? = some o
theorem KeepC.refl (S : Nat → Prop) (W : World) : KeepC S W W := fun _ _ h _ _ => h
theorem KeepC.trans {S : Nat → Prop} {A B C : World} (h : KeepC S A B) (k : KeepC S B C) : KeepC S A C := fun j o hj ho hs => k j o (h j o hj ho hs) ho hs
theorem KeepC.cell {S : Nat → Prop} {W W' : World} {a : Addr} {v : Value} (h : KeepC S W W') (hc : W.cell? a = some v) (hs : ¬ S a.block) : W'.cell? a = some v := by
  obtain ⟨o, ho, hi⟩ := cells_of_cell hc
  exact (World.cell?_of_block ((h _ o ho hi hs).trans ho.symm)).trans hc
theorem KeepC.putObj (S : Nat → Prop) (W : World) (l : Nat) (o o' : Obj) (ho : W.heap[l]? = some o) (hc : o.isCells = false) : KeepC S W (W.putObj l o') := fun k p hk hp _ => by
  by_cases h : k = l
  · rw [h, ho] at hk; cases hk; rw [hc] at hp; cases hp
  · exact (World.putObj_heap_other h).trans hk
theorem KeepC.set {S : Nat → Prop} {W : World} (a : Addr) (v : Value) (h : S a.block) : KeepC S W (W.setCell a v) := fun k _ hk _ hs => (Below.heap_setCell W a v k (fun e => hs (by rw [e]; exact h))).trans hk
theorem begB_yes {l : Nat} {a : Int} (h : begM l a = true) : 0 ≤ a ∧ a + 3 ≤ (l : Int) := by
  unfold begM at h
  rw [Bool.and_eq_true, decide_eq_true_eq, decide_eq_true_eq] at h
  omega
theorem begB_no {bs : List UInt8} {l : Nat} {a : Int} (hl : bs.length = l) (h : begM l a = false) : cands bs a = [] := by
  unfold begM at h
  rw [Bool.and_eq_false_iff, decide_eq_false_iff_not, decide_eq_false_iff_not] at h
  rw [cands, if_neg (by omega)]
theorem cands_at {bs : List UInt8} {n : Nat} (h : n + 3 ≤ bs.length) : cands bs (n : Int) = candN bs n (min n 32768) := by
  rw [cands, if_pos (by omega)]
  simp
theorem abidesDrewN {α : Type} {B : Nat} {J : List α → World → Prop} (h : AbidesS B (fun _ => False) J) {s : List α} {W : World} (hj : J s W) (n : Nat) : J s (W.drewN n) :=
  h s W _ none hj ⟨rfl, rfl, rfl, Nat.le_refl _, fun _ _ _ => rfl⟩ (fun r e => by cases e)
theorem cell_alloc_l {W : World} {a : Addr} {v : Value} (o : Obj) (h : W.cell? a = some v) : (W.alloc o).cell? a = some v := cell_kept h (World.grownBy_alloc W o none) (fun r e => by cases e)
theorem agg3 {x0 x1 x2 y0 y1 y2 : UInt8} : ((Value.agg #[.int .u8 (y0.toNat : Int), .int .u8 (y1.toNat : Int), .int .u8 (y2.toNat : Int)]) = .agg #[.int .u8 (x0.toNat : Int), .int .u8 (x1.toNat : Int), .int .u8 (x2.toNat : Int)]) ↔ (y0 = x0 ∧ y1 = x1 ∧ y2 = x2) := by
  constructor
  · intro h
    simp at h
    exact ⟨UInt8.toNat_inj.1 (by omega), UInt8.toNat_inj.1 (by omega), UInt8.toNat_inj.1 (by omega)⟩
  · rintro ⟨rfl, rfl, rfl⟩; rfl
end Go.Proofs.YtaknladkodibaaaGreat
/- Layer 10: the finder, plainly; the keys of its map. -/
namespace Go.Proofs.YtaknladkodibaaaGreat
open Go.RowKit Go.Maps

theorem laidOutM : laidOutB Tryz.prog = true := by kernel_rfl
set_option maxRecDepth 100000 in
theorem begRow : (125 : TypeId) < Tryz.prog.types.size := of_decide_eq_true (by kernel_rfl)
theorem begCells : Tryz.prog.cellsOf 125 = 3 := by kernel_rfl
theorem byteCells1 : Tryz.prog.cellsOf 5 = 1 := by kernel_rfl
theorem begWide : (match Tryz.prog.underlying 125 with | some (.array _ _) | some (.struct _) => true | _ => false) = true := by rw [Tryz.underlying125]
set_option maxRecDepth 100000 in
theorem begLaw : Keyed Tryz.prog 125 := Keyed.of_law (deep_law_laid laidOutM (m := 2) (by omega) begRow (by kernel_rfl) begWide)
theorem begKeyType : Tryz.prog.keyType 125 = true := by kernel_rfl
/-- Three bytes. -/
abbrev B3 := UInt8 × UInt8 × UInt8
def agB (x : B3) : Value := .agg #[.int .u8 (x.1.toNat : Int), .int .u8 (x.2.1.toNat : Int), .int .u8 (x.2.2.toNat : Int)]
theorem u8wf (x : UInt8) : (Lit.int .u8 (x.toNat : Int)).wf = true := by
  have := UInt8.toNat_lt x
  simp [Lit.wf, IntKind.min, IntKind.max, IntKind.signed, IntKind.bits]
  omega
theorem key_byte (n : Nat) (z : UInt8) : Tryz.prog.keyLits (n + 1) 5 [.int .u8 (z.toNat : Int)] = some [.int .u8 (z.toNat : Int)] := by
  unfold Program.keyLits
  simp [Tryz.underlying5, u8wf]
theorem key_lits (n : Nat) (x : B3) : Tryz.prog.keyLits (n + 1 + 1) 125 [.int .u8 (x.1.toNat : Int), .int .u8 (x.2.1.toNat : Int), .int .u8 (x.2.2.toNat : Int)] = some [.int .u8 (x.1.toNat : Int), .int .u8 (x.2.1.toNat : Int), .int .u8 (x.2.2.toNat : Int)] := by
  unfold Program.keyLits
  simp [Tryz.underlying125, begCells, byteCells1, List.range, List.range.loop, key_byte]
def klit (x : B3) : Lit := .string (keyBytes [.int .u8 (x.1.toNat : Int), .int .u8 (x.2.1.toNat : Int), .int .u8 (x.2.2.toNat : Int)])
set_option maxRecDepth 100000 in
theorem klit_key (x : B3) : keyOf Tryz.prog 125 (agB x) = some (klit x) := by
  obtain ⟨n, hn⟩ : ∃ n, Tryz.prog.types.size = n + 1 := ⟨Tryz.prog.types.size - 1, (Nat.sub_add_cancel (Nat.succ_le_of_lt (Nat.lt_of_le_of_lt (Nat.zero_le _) begRow))).symm⟩
  have hf : (agB x).formed Tryz.prog 125 = true := by
    simp [Value.formed, agB, Tryz.underlying125, begCells]
  unfold keyOf
  rw [Tryz.underlying125]
  dsimp only
  rw [begKeyType, hf, hn]
  have e : (agB x).cells.toList = [.int .u8 (x.1.toNat : Int), .int .u8 (x.2.1.toNat : Int), .int .u8 (x.2.2.toNat : Int)] := rfl
  rw [e, key_lits]
  rfl
theorem agB_inj {x y : B3} (h : agB x = agB y) : x = y := by
  obtain ⟨x0, x1, x2⟩ := x
  obtain ⟨y0, y1, y2⟩ := y
  unfold agB at h
  obtain ⟨rfl, rfl, rfl⟩ := agg3.1 h
  rfl
theorem klit_inj {x y : B3} (h : klit x = klit y) : x = y := agB_inj (begLaw.inj (klit_key x) (by rw [h]; exact klit_key y))

/-- What a place begins with. -/
def bg (bs : List UInt8) (p : Nat) : B3 := (bs.getD p 0, bs.getD (p + 1) 0, bs.getD (p + 2) 0)
theorem three_bg (bs : List UInt8) (a d : Nat) : three bs a d = decide (bg bs (a - d) = bg bs a) := by
  rw [Bool.eq_iff_iff, decide_eq_true_eq]
  unfold three bg
  rw [Bool.and_eq_true, Bool.and_eq_true, beq_iff_eq, beq_iff_eq, beq_iff_eq, Prod.mk.injEq, Prod.mk.injEq, and_assoc]
/-- The place behind the last one below m that begins so; 0: none does. -/
def backB (bs : List UInt8) (x : B3) : Nat → Nat
  | 0 => 0
  | m + 1 => if bg bs m = x then m + 1 else backB bs x m
theorem backB_le (bs : List UInt8) (x : B3) : ∀ m, backB bs x m ≤ m
  | 0 => Nat.le_refl 0
  | m + 1 => by
    rw [backB]
    split
    · omega
    · have := backB_le bs x m; omega
theorem backB_has (bs : List UInt8) (x : B3) : ∀ m, 0 < backB bs x m → bg bs (backB bs x m - 1) = x
  | 0, h0 => absurd h0 (by simp [backB])
  | m + 1, h0 => by
    rw [backB] at h0 ⊢
    split
    · rename_i he; exact he
    · rename_i he
      rw [if_neg he] at h0
      exact backB_has bs x m h0
theorem backB_none (bs : List UInt8) (x : B3) : ∀ m q, backB bs x m ≤ q → q < m → bg bs q ≠ x
  | 0, q, _, h2 => by omega
  | m + 1, q, h1, h2 => by
    rw [backB] at h1
    split at h1
    · omega
    · rename_i he
      by_cases hq : q = m
      · rw [hq]; exact he
      · exact backB_none bs x m q h1 (by omega)
/-- What the map holds when m places are laid. -/
def mapD (bs : List UInt8) : Nat → DataW Unit
  | 0 => .map []
  | m + 1 => (mapD bs m).put (klit (bg bs m)) (.lit (.int .i64 (m : Int)))
theorem mapD_is (bs : List UInt8) : ∀ m, IsMap (mapD bs m)
  | 0 => isMap_empty
  | m + 1 => (mapD_is bs m).put _ _
theorem klit_isKey (x : B3) : WideAt.IsKeyLit (klit x) := begLaw.key (klit_key x)
theorem mapD_look (bs : List UInt8) (x : B3) : ∀ m, has (mapD bs m) (klit x) = decide (0 < backB bs x m) ∧ ∀ z, (mapD bs m).atKey (klit x) z = if 0 < backB bs x m then .lit (.int .i64 ((backB bs x m - 1 : Nat) : Int)) else z
  | 0 => ⟨rfl, fun z => rfl⟩
  | m + 1 => by
    obtain ⟨h1, h2⟩ := mapD_look bs x m
    rw [mapD, backB]
    by_cases h : bg bs m = x
    · rw [if_pos h, ← h]
      refine ⟨?_, fun z => ?_⟩
      · rw [has_put_same (mapD_is bs m) (klit_isKey _)]; simp
      · rw [atKey_put_same (mapD_is bs m) (klit_isKey _)]; simp
    · have hne : klit x ≠ klit (bg bs m) := fun e => h (klit_inj e).symm
      rw [if_neg h]
      refine ⟨?_, fun z => ?_⟩
      · rw [has_put_other hne, h1]
      · rw [atKey_put_other hne, h2 z]
/-- How far ahead of a place the next one that begins so stands; 0: none does within the window. -/
def dB (bs : List UInt8) (p : Nat) : Nat := if backB bs (bg bs p) p = 0 ∨ 32768 < p - (backB bs (bg bs p) p - 1) then 0 else p - (backB bs (bg bs p) p - 1)
theorem dB_le (bs : List UInt8) (p : Nat) : dB bs p ≤ 32768 := by
  unfold dB
  split <;> omega
/-- The next candidate. -/
theorem dB_step {bs : List UInt8} {a e : Nat} (hea : e ≤ a) (he : bg bs (a - e) = bg bs a) :
    (dB bs (a - e) = 0 → candN bs a (min a 32768) = candN bs a (min e (min a 32768))) ∧
    (0 < dB bs (a - e) → e + dB bs (a - e) ≤ a ∧ bg bs (a - (e + dB bs (a - e))) = bg bs a ∧ candN bs a (e + dB bs (a - e)) = candN bs a e ++ [e + dB bs (a - e)] ∧
      (32768 < e + dB bs (a - e) → e ≤ 32768 → candN bs a (min a 32768) = candN bs a e)) := by
  obtain ⟨b, hb⟩ : ∃ b, backB bs (bg bs (a - e)) (a - e) = b := ⟨_, rfl⟩
  have hle := backB_le bs (bg bs (a - e)) (a - e)
  rw [hb] at hle
  have hno : ∀ q, b ≤ q → q < a - e → bg bs q ≠ bg bs a := fun q h1 h2 => by
    rw [← he]; exact backB_none bs _ _ q (by rw [hb]; exact h1) h2
  have skip : ∀ m k, e ≤ m → (∀ d, m < d → d ≤ m + k → d ≤ a ∧ b ≤ a - d) → candN bs a (m + k) = candN bs a m := by
    intro m k hm
    induction k with
    | zero => exact fun _ => rfl
    | succ k ih =>
      intro h
      have h1 := ih (fun d h2 h3 => h d h2 (by omega))
      rw [← Nat.add_assoc, candN_no, h1]
      rw [three_bg, decide_eq_false_iff_not]
      obtain ⟨h2, h3⟩ := h (m + k + 1) (by omega) (by omega)
      exact hno _ h3 (by omega)
  unfold dB
  rw [hb]
  refine ⟨fun h => ?_, fun h => ?_⟩
  · by_cases hem : e ≤ min a 32768
    · rw [Nat.min_eq_left hem]
      obtain ⟨k, hk⟩ : ∃ k, min a 32768 = e + k := ⟨min a 32768 - e, by omega⟩
      rw [hk]
      refine skip e k (Nat.le_refl e) fun d h1 h2 => ⟨by omega, ?_⟩
      split at h
      · rename_i hc
        rcases hc with hc | hc <;> omega
      · omega
    · rw [show min e (min a 32768) = min a 32768 by omega]
  · split at h
    · omega
    · rename_i hc
      rw [if_neg hc]
      have hb0 : 0 < b := by omega
      have hd : a - (e + (a - e - (b - 1))) = b - 1 := by omega
      have hbg : bg bs (b - 1) = bg bs a := by
        have := backB_has bs (bg bs (a - e)) (a - e) (by rw [hb]; exact hb0)
        rw [hb] at this
        rw [this, he]
      obtain ⟨k, hk⟩ : ∃ k, e + (a - e - (b - 1)) = e + k + 1 := ⟨a - e - b, by omega⟩
      have hsk : candN bs a (e + k) = candN bs a e := skip e k (Nat.le_refl e) fun d h1 h2 => ⟨by omega, by omega⟩
      refine ⟨by omega, by rw [hd]; exact hbg, ?_, fun h1 h2 => ?_⟩
      · rw [hk, candN_yes (by rw [three_bg, decide_eq_true_eq, ← hk, hd]; exact hbg), hsk]
      · obtain ⟨k2, hk2⟩ : ∃ k2, min a 32768 = e + k2 := ⟨min a 32768 - e, by omega⟩
        rw [hk2]
        exact skip e k2 (Nat.le_refl e) fun d h3 h4 => ⟨by omega, by omega⟩
end Go.Proofs.YtaknladkodibaaaGreat
/- Layer 10: a finder in memory: New. -/
namespace Go.Proofs.YtaknladkodibaaaGreat
open Go.RowKit Go.Maps

def uc (d : Nat) : Value := .int .u16 (d : Int)
/-- A block of numbers of 16 bits. -/
def U16B (w : World) (g : Nat) (vs : List Nat) : Prop := w.heap[g]? = some (.cells (vs.map uc).toArray 127 (0, 0))
theorem ub_cell {w : World} {g : Nat} {vs : List Nat} {i x : Nat} (h : U16B w g vs) (hx : vs[i]? = some x) : w.cell? ⟨g, i, none⟩ = some (.int .u16 (x : Int)) := by
  rw [cell_of_row w g i _ _ _ h]
  simp [hx, uc]
theorem ub_free {w : World} {g : Nat} {vs : List Nat} (h : U16B w g vs) (i : Nat) : w.frozen? ⟨g, i, none⟩ = false := frozen_of_row w g i _ _ h
theorem ub_set {w : World} {g : Nat} {vs : List Nat} (h : U16B w g vs) (i y : Nat) : U16B (w.setCell ⟨g, i, none⟩ (.int .u16 (y : Int))) g (vs.set i y) := by
  unfold U16B
  rw [heap_setCell_same w g i _ _ _ h]
  rw [List.setIfInBounds_toArray, List.map_set]
  rfl
theorem u16Info : (Tryz.prog.info? 127).map (fun i => (i.zero, i.size, i.bytes)) = some (some (.int .u16 0), 1, 2) := by kernel_rfl
theorem make_u16 (n : Nat) (hn : n ≤ 1000000) (W : World) :
    (Instr.makeSlice 119 (.int .i64 (n : Int)) (.int .i64 (n : Int))).run Tryz.prog W = .ok (.slice (some ⟨W.heap.size, 0, none⟩) n n) (W.alloc (.cells (madeCells #[.int .u16 0] n) 127)) := by
  obtain ⟨i0, hi, hz0, hz1, hz2⟩ := info_parts u16Info
  have h := run_make (P := Tryz.prog) W 119 127 i0 (.int .u16 0) Tryz.underlying119 hi hz0 .i64 .i64 n n (by omega) (Int.le_refl _) (by rw [hz2]; omega) (by omega)
  simp only [Int.toNat_natCast, hz1, Nat.mul_one] at h
  exact h
theorem made_u16 (w : World) (n : Nat) : U16B (w.alloc (.cells (madeCells #[Value.int .u16 0] n) 127)) w.heap.size (List.replicate n 0) := by
  have e : madeCells #[Value.int .u16 0] n = ((List.replicate n (0 : Nat)).map uc).toArray := by
    apply Array.toList_inj.1
    rw [toList_madeCells_one]
    simp [uc]
  unfold U16B
  rw [e]
  exact heap_alloc_new w _

/-- The distances, the first p places being laid. -/
def dL (bs : List UInt8) (l p : Nat) : List Nat := (List.range l).map fun q => if q < p then dB bs q else 0
theorem dL_len (bs : List UInt8) (l p : Nat) : (dL bs l p).length = l := by simp [dL]
theorem dL_zero (bs : List UInt8) (l : Nat) : dL bs l 0 = List.replicate l 0 := by
  unfold dL
  apply List.ext_getElem?
  intro i
  simp [List.getElem?_replicate]
  by_cases h : i < l <;> simp [h]
theorem dL_get (bs : List UInt8) (l p : Nat) {q : Nat} (hq : q < l) : (dL bs l p)[q]? = some (if q < p then dB bs q else 0) := by
  unfold dL
  rw [List.getElem?_map, List.getElem?_range hq]
  rfl
theorem dL_step (bs : List UInt8) (l p : Nat) : (dL bs l p).set p (dB bs p) = dL bs l (p + 1) := by
  apply List.ext_getElem?
  intro i
  rw [List.getElem?_set]
  by_cases hi : i < l
  · by_cases hp : p = i
    · subst hp
      rw [if_pos rfl, if_pos (by rw [dL_len]; exact hi), dL_get bs l (p + 1) hi, if_pos (by omega)]
    · rw [if_neg hp, dL_get bs l p hi, dL_get bs l (p + 1) hi]
      by_cases h : i < p
      · rw [if_pos h, if_pos (by omega)]
      · rw [if_neg h, if_neg (by omega)]
  · have e1 : (dL bs l (p + 1))[i]? = none := List.getElem?_eq_none (by rw [dL_len]; omega)
    have e2 : (dL bs l p)[i]? = none := List.getElem?_eq_none (by rw [dL_len]; omega)
    rw [e1, e2, dL_len]
    split
    · rw [if_neg (by omega)]
    · rfl
theorem dL_skip {bs : List UInt8} {l p : Nat} (h : dB bs p = 0) : dL bs l p = dL bs l (p + 1) := by
  rw [← dL_step, h]
  apply List.ext_getElem?
  intro i
  rw [List.getElem?_set]
  split
  · rename_i hp
    subst hp
    by_cases hl : p < l
    · rw [if_pos (by rw [dL_len]; exact hl), dL_get bs l p hl, if_neg (by omega)]
    · rw [if_neg (by rw [dL_len]; exact hl)]
      exact List.getElem?_eq_none (by rw [dL_len]; omega)
  · rfl

/-- A finder in memory. -/
def LF (w : World) (g g0 : Nat) (A : Option Addr) (l c : Nat) (bs : List UInt8) : Prop :=
  w.heap[g]? = some (.cells #[.slice A l c, .slice (some ⟨g0, 0, none⟩) l l] 121) ∧ U16B w g0 (dL bs l (l - 2))
theorem LF.drewN {w : World} {g g0 : Nat} {A : Option Addr} {l c : Nat} {bs : List UInt8} (h : LF w g g0 A l c bs) (n : Nat) : LF (w.drewN n) g g0 A l c bs := h
theorem LF.below {w w' : World} {B g g0 : Nat} {A : Option Addr} {l c : Nat} {bs : List UInt8} (h : LF w g g0 A l c bs) (hb : Below B w w') (hg : g < B) (hg0 : g0 < B) : LF w' g g0 A l c bs :=
  ⟨(hb.block g hg).trans h.1, (hb.block g0 hg0).trans h.2⟩
theorem own_set {w : World} {P : Program} {k : TypeId} {R : Value → Option (DataW Unit × List MemPlace)} {b n : Nat} {D : DataW Unit} {a : Addr} {v : Value} (h : w.ownsMap P k R b n D) (hb : b ≠ a.block) : (w.setCell a v).ownsMap P k R b n D := by
  obtain ⟨es, clock, h1, h2⟩ := h
  exact ⟨es, clock, (Below.heap_setCell w a v b hb).trans h1, h2⟩
theorem zeroInt (w : World) : (zeroValue 3).run Tryz.prog w = .ok (.int .i64 0) w := by kernel_rfl
set_option maxRecDepth 100000 in
set_option maxHeartbeats 2000000 in
theorem newM_any (A : Option Addr) (l c : Nat) (bs : List UInt8) (B : Nat) (w : World) (hl : bs.length = l) (hm : l ≤ 32000) (hcap : l ≤ c) (hb : Bytes w B A bs) (hB : B ≤ w.heap.size) :
    Calls Tryz.prog 45 #[.slice A l c] w fun e w' => e = .returned (.pointer (some ⟨w.heap.size + 1, 0, none⟩)) ∧ LF w' (w.heap.size + 1) w.heap.size A l c bs ∧ Below w.heap.size w w' := by
  have HL := Lib.hid hl
  have HBY := Lib.hid hb
  have HB := Lib.hid hB
  have mk0 := make_u16 l (by omega)
  have hmm := @run_makeMap Tryz.prog
  obtain ⟨W2, hW2⟩ : ∃ W2, (w.alloc (.cells (madeCells #[.int .u16 0] l) 127)).alloc (.cells #[.slice A l c, .slice (some ⟨w.heap.size, 0, none⟩) l l] 121) = W2 := ⟨_, rfl⟩
  have HZ2 : Hid (W2.heap.size = w.heap.size + 2) := by show _ = _; rw [← hW2]; simp
  have HG0 : Hid (U16B W2 w.heap.size (dL bs l 0)) := by
    show U16B _ _ _
    rw [← hW2, dL_zero]
    exact (Below.heap_alloc _ _ _ (by simp)).trans (made_u16 w l)
  have HG1 : Hid (W2.heap[w.heap.size + 1]? = some (.cells #[.slice A l c, .slice (some ⟨w.heap.size, 0, none⟩) l l] 121)) := by
    show _ = _
    rw [← hW2]
    have h := heap_alloc_new (w.alloc (.cells (madeCells #[.int .u16 0] l) 127)) (.cells #[.slice A l c, .slice (some ⟨w.heap.size, 0, none⟩) l l] 121)
    rwa [World.size_alloc] at h
  have HB2 : Hid (Below w.heap.size w W2) := by show Below _ _ _; rw [← hW2]; exact ((Below.refl _ w).alloc (Nat.le_refl _) _).alloc (by simp) _
  clear hb hB hl
  go_enter Tryz.func45, Tryz.ntmps45
  go_wp2_with fail
  obtain ⟨G, hG⟩ : ∃ G, W2.heap.size = G := ⟨_, rfl⟩
  have HOW : Hid (∀ o : Nat, (W2.alloc (.map #[] 0)).ownsMap Tryz.prog 125 (plainElem Tryz.prog 3) G 0 (mapD bs 0)) := fun _ => by
    rw [← hG]; exact World.ownsMap_made W2 _ _ _
  have HA3 : Hid (∀ o : Obj, U16B (W2.alloc o) w.heap.size (dL bs l 0) ∧ (W2.alloc o).heap[w.heap.size + 1]? = some (.cells #[.slice A l c, .slice (some ⟨w.heap.size, 0, none⟩) l l] 121) ∧ Below w.heap.size w (W2.alloc o)) := fun o => by
    have hz := HZ2.out
    exact ⟨(Below.heap_alloc W2 o _ (by omega)).trans HG0.out, (Below.heap_alloc W2 o _ (by omega)).trans HG1.out, HB2.out.alloc (by omega) _⟩
  have HZG : Hid (G = w.heap.size + 2) := by show _ = _; rw [← hG]; exact HZ2.out
  rw [hG]
  clear hG
  go_loopg [5] (l - 2) (fun gk i wr => ∃ p : Nat, p + gk = l - 2 ∧ i = .int .i64 p ∧ U16B wr w.heap.size (dL bs l p) ∧ wr.heap[w.heap.size + 1]? = some (.cells #[.slice A l c, .slice (some ⟨w.heap.size, 0, none⟩) l l] 121) ∧
    wr.ownsMap Tryz.prog 125 (plainElem Tryz.prog 3) G p (mapD bs p) ∧ Below w.heap.size w wr)
  case atStart => exact ⟨0, by omega, rfl, (HA3.out _).1, (HA3.out _).2.1, HOW.out 0, (HA3.out _).2.2⟩
  case round =>
    obtain ⟨p, hp, rfl, g0, g1, g2, hbl⟩ := hrel
    have HBN := Lib.hid (begins_any A l c (p : Int) wr (by omega))
    have HBL := Lib.hid hbl
    have HI0 := Lib.hid g0
    have HI1 := Lib.hid g1
    have HOM := Lib.hid g2
    by_cases h : gk = 0
    · obtain rfl : p = l - 2 := by omega
      have hbg : begM l ((l - 2 : Nat) : Int) = false := by
        cases hb : begM l ((l - 2 : Nat) : Int) with
        | false => rfl
        | true => have := begB_yes hb; omega
      rw [hbg] at HBN
      clear g0 g1 g2 hbl hbg
      go_wp2_with (go_at_call 63; refine HBN.out.mono ?_; rintro e w' ⟨rfl, rfl⟩)
      go_ret
      exact ⟨rfl, ⟨HI1.out, HI0.out⟩, HBL.out⟩
    · have hbg : begM l (p : Int) = true := by
        unfold begM
        rw [decide_eq_true (by omega), decide_eq_true (by omega)]
        rfl
      rw [hbg] at HBN
      have hp3 : p + 3 ≤ l := by omega
      have hpc : ¬ c = p := by omega
      obtain ⟨x0, hx0⟩ : ∃ x, bs[p]? = some x := ⟨_, List.getElem?_eq_getElem (by have := HL.out; omega)⟩
      obtain ⟨x1, hx1⟩ : ∃ x, bs[p + 1]? = some x := ⟨_, List.getElem?_eq_getElem (by have := HL.out; omega)⟩
      obtain ⟨x2, hx2⟩ : ∃ x, bs[p + 2]? = some x := ⟨_, List.getElem?_eq_getElem (by have := HL.out; omega)⟩
      have HBG : Hid (bg bs p = (x0, x1, x2)) := by show _ = _; unfold bg; rw [List.getD, List.getD, List.getD, hx0, hx1, hx2]; rfl
      obtain ⟨b, o, rfl, hbB, hc⟩ := (HBY.out.below (HBL.out.mono HB.out) (Nat.le_refl _)) (by rw [byteCells_length, HL.out]; omega)
      have d0 : wr.cell? ⟨b, o + p, none⟩ = some (.int .u8 (x0.toNat : Int)) := hc _ _ (byteCells_get hx0)
      have d1 : wr.cell? ⟨b, o + p + 1, none⟩ = some (.int .u8 (x1.toNat : Int)) := hc _ _ (byteCells_get hx1)
      have d2 : wr.cell? ⟨b, o + p + 2, none⟩ = some (.int .u8 (x2.toNat : Int)) := hc _ _ (byteCells_get hx2)
      have hat0 : ∀ w, (Instr.arrayAt 125 (.slice (some ⟨b, o + p, none⟩) (l - p) (c - p))).run Tryz.prog w = .ok (.pointer (some ⟨b, o + p, none⟩)) w := fun w => run_arrayAt w 125 _ 3 _ (l - p) (c - p) Tryz.underlying125 (by omega)
      obtain ⟨W3, hW3⟩ : ∃ W3, wr.alloc (.cells #[.int .u8 (x0.toNat : Int), .int .u8 (x1.toNat : Int), .int .u8 (x2.toNat : Int)] 125) = W3 := ⟨_, rfl⟩
      have HOW1 : Hid (W3.ownsMap Tryz.prog 125 (plainElem Tryz.prog 3) G p (mapD bs p)) := by show World.ownsMap _ _ _ _ _ _ _; rw [← hW3]; exact HOM.out.alloc _
      have HI03 : Hid (U16B W3 w.heap.size (dL bs l p)) := by show U16B _ _ _; rw [← hW3]; exact (Below.heap_alloc _ _ _ (Array.getElem?_eq_some_iff.1 HI0.out).1).trans HI0.out
      have HI13 : Hid (W3.heap[w.heap.size + 1]? = some (.cells #[.slice (some ⟨b, o, none⟩) l c, .slice (some ⟨w.heap.size, 0, none⟩) l l] 121)) := by show _ = _; rw [← hW3]; exact (Below.heap_alloc _ _ _ (Array.getElem?_eq_some_iff.1 HI1.out).1).trans HI1.out
      have HBL3 : Hid (Below w.heap.size w W3) := by show Below _ _ _; rw [← hW3]; exact HBL.out.alloc HBL.out.size _
      have e0 : W3.cell? ⟨wr.heap.size, 0, none⟩ = some (.int .u8 (x0.toNat : Int)) := by rw [← hW3]; exact cell_of_row _ _ 0 _ _ _ (heap_alloc_new wr _)
      have e1 : W3.cell? ⟨wr.heap.size, 1, none⟩ = some (.int .u8 (x1.toNat : Int)) := by rw [← hW3]; exact cell_of_row _ _ 1 _ _ _ (heap_alloc_new wr _)
      have e2 : W3.cell? ⟨wr.heap.size, 2, none⟩ = some (.int .u8 (x2.toNat : Int)) := by rw [← hW3]; exact cell_of_row _ _ 2 _ _ _ (heap_alloc_new wr _)
      have e3 := cell_of_row W3 (w.heap.size + 1) 1 _ _ _ HI13.out
      have e4 : W3.cell? ⟨w.heap.size, p, none⟩ = some (.int .u16 0) := by
        refine (ub_cell HI03.out (x := 0) ?_)
        rw [dL_get bs l p (by omega), if_neg (by omega)]
      have f4 := ub_free HI03.out p
      have hpl : p < l := by omega
      have hrs : ¬ wr.heap.size = w.heap.size := by have := (Array.getElem?_eq_some_iff.1 HI1.out).1; omega
      have hrs' : ¬ w.heap.size = wr.heap.size := by have := (Array.getElem?_eq_some_iff.1 HI1.out).1; omega
      obtain ⟨bk, hbk⟩ : ∃ bk, backB bs (x0, x1, x2) p = bk := ⟨_, rfl⟩
      have hbl := backB_le bs (x0, x1, x2) p
      have hlk := mapD_look bs (x0, x1, x2) p
      rw [hbk] at hlk hbl
      have HLK := Lib.hid hlk
      have HCC : Hid (∀ cc : Int, (mapD bs p).atKey (klit (x0, x1, x2)) (.lit (.int .i64 0)) = .lit (.int .i64 cc) → ((bk - 1 : Nat) : Int) = cc) := fun cc h => by
        rw [HLK.out.2] at h
        split at h
        · injection h with h; injection h
        · injection h with h
          injection h with _ h
          omega
      have HWF : Hid ((Lit.int .i64 (p : Int)).wf = true) := by
        show _ = _
        simp [Lit.wf, IntKind.min, IntKind.max, IntKind.signed, IntKind.bits]
        omega
      have HDB : Hid (dB bs p = if bk = 0 ∨ 32768 < p - (bk - 1) then 0 else p - (bk - 1)) := by show _ = _; rw [dB, HBG.out, hbk]
      clear g0 g1 g2 hbg hx0 hx1 hx2 hc hbk hlk
      by_cases hb0 : bk = 0
      · subst hb0
        have HS1 : Hid (dL bs l p = dL bs l (p + 1)) := dL_skip (by rw [HDB.out, if_pos (.inl rfl)])
        go_wp2_with (first
                | (go_at_call 63; refine HBN.out.mono ?_; rintro e w' ⟨rfl, rfl⟩)
                | (at_lookup; refine wpList_lookup_own_ok_int _ rfl _ _ 122 rfl 125 3 .i64 begLaw Tryz.underlying122 Tryz.underlying3 (zeroInt _) G p (mapD bs p) rfl HOW1.out (agB (x0, x1, x2)) (klit (x0, x1, x2)) rfl (klit_key _) ?_; intro cc hat hwc; obtain rfl := HCC.out cc hat; rw [HLK.out.1]; clear hat hwc)
                | (at_mapUpdate; refine wpList_mapUpdate_own _ rfl _ _ _ 122 rfl 125 3 begLaw Tryz.underlying122 _ G p (mapD bs p) rfl HOW1.out (by unfold maxLen; omega) (agB (x0, x1, x2)) _ (klit (x0, x1, x2)) rfl rfl (klit_key _) _ [] (plainElem_int Tryz.underlying3 HWF.out) ?_; intro w5 hown5 hgrow5))
        have HO5 := Lib.hid hown5
        have HG5 := Lib.hid hgrow5
        clear hown5 hgrow5
        go_roundg (gk - 1)
        case measure => omega
        case rel =>
          have hz := HZG.out
          have hg := HG5.out
          refine ⟨p + 1, by omega, by go_num, ?_, ?_, ?_, ?_⟩
          · rw [← HS1.out]
            exact (hg.block _ (Array.getElem?_eq_some_iff.1 HI03.out).1 (by simp; omega)).trans HI03.out
          · exact (hg.block _ (Array.getElem?_eq_some_iff.1 HI13.out).1 (by simp; omega)).trans HI13.out
          · rw [mapD, HBG.out]; exact HO5.out
          · exact (HBL3.out).grown hg (by have := HBL3.out.size; omega) (fun k e => by cases e; omega)
      · obtain ⟨q, rfl⟩ : ∃ q, bk = q + 1 := ⟨bk - 1, by omega⟩
        have t0 : decide (0 < q + 1) = true := by simp
        obtain ⟨df, hdf⟩ : ∃ df, p - q = df := ⟨_, rfl⟩
        have hsub : (p : Int) - (q : Int) = (df : Int) := by omega
        have hdl : df ≤ 32000 := by omega
        have HDB2 : Hid (dB bs p = if 32768 < df then 0 else df) := by
          show _ = _
          rw [HDB.out, Nat.add_sub_cancel, hdf]
          by_cases h5 : 32768 < df
          · rw [if_pos (.inr h5), if_pos h5]
          · rw [if_neg (by omega), if_neg h5]
        have t1 : decide ((df : Int) ≤ 32768) = true := decide_eq_true (by omega)
        have hw1 : IntKind.i64.wrap (df : Int) = (df : Int) := IntWalk.i64_in _ (by omega)
        have hw2 : IntKind.u16.wrap (df : Int) = (df : Int) := by rw [IntKind.wrap_u16]; omega
        have HS1 : Hid ((dL bs l p).set p df = dL bs l (p + 1)) := by show _ = _; rw [← dL_step, HDB2.out, if_neg (by omega)]
        clear hdf hb0
        go_wp2_with (first
                | (go_at_call 63; refine HBN.out.mono ?_; rintro e w' ⟨rfl, rfl⟩)
                | (at_lookup; refine wpList_lookup_own_ok_int _ rfl _ _ 122 rfl 125 3 .i64 begLaw Tryz.underlying122 Tryz.underlying3 (zeroInt _) G p (mapD bs p) rfl HOW1.out (agB (x0, x1, x2)) (klit (x0, x1, x2)) rfl (klit_key _) ?_; intro cc hat hwc; obtain rfl := HCC.out cc hat; rw [HLK.out.1]; clear hat hwc)
                | (at_mapUpdate; refine wpList_mapUpdate_own _ rfl _ _ _ 122 rfl 125 3 begLaw Tryz.underlying122 _ G p (mapD bs p) rfl (own_set HOW1.out (by show G ≠ w.heap.size; have := HZG.out; omega)) (by unfold maxLen; omega) (agB (x0, x1, x2)) _ (klit (x0, x1, x2)) rfl rfl (klit_key _) _ [] (plainElem_int Tryz.underlying3 HWF.out) ?_; intro w5 hown5 hgrow5))
        have HO5 := Lib.hid hown5
        have HG5 := Lib.hid hgrow5
        clear hown5 hgrow5
        go_roundg (gk - 1)
        case measure => omega
        case rel =>
          have hz := HZG.out
          have hg := HG5.out
          refine ⟨p + 1, by omega, by go_num, ?_, ?_, ?_, ?_⟩
          · rw [← HS1.out]
            exact (hg.block _ (Array.getElem?_eq_some_iff.1 (ub_set HI03.out p df)).1 (by simp; omega)).trans (ub_set HI03.out p df)
          · exact (hg.block _ (Array.getElem?_eq_some_iff.1 ((Below.heap_setCell W3 ⟨w.heap.size, p, none⟩ _ _ (by show w.heap.size + 1 ≠ w.heap.size; omega)).trans HI13.out)).1 (by simp; omega)).trans ((Below.heap_setCell W3 ⟨w.heap.size, p, none⟩ _ _ (by show w.heap.size + 1 ≠ w.heap.size; omega)).trans HI13.out)
          · rw [mapD, HBG.out]; exact HO5.out
          · exact ((HBL3.out.setCell (p := ⟨w.heap.size, p, none⟩) (Nat.le_refl _) (.int .u16 (df : Int)))).grown hg (by have := (HBL3.out.setCell (p := ⟨w.heap.size, p, none⟩) (Nat.le_refl _) (.int .u16 (df : Int))).size; omega) (fun k e => by cases e; omega)
end Go.Proofs.YtaknladkodibaaaGreat
/- Layer 10: the best match, over any iterator that tells the candidates. -/
namespace Go.Proofs.YtaknladkodibaaaGreat
open Go.RowKit Go.Shelf
attribute [local go_sem] Oper.semAt_some

/-- The blocks that a round of the loop changes. -/
def S3 (N : Nat) : Nat → Prop := fun k => k = N + 2 ∨ k = N + 3 ∨ k = N + 4
/-- What lies below stays, and cells of what lies at or beyond B may have changed. -/
theorem ownS_box {β : Type} {B k : Nat} {cs : β → Array Value} {t : TypeId} : OwnS B (fun _ => False) (fun (s : β) W => W.heap[k]? = some (.cells (cs s) t)) := ownS_cells (fun h => h)
def BI (N : Nat) (A : Option Addr) (l c : Nat) (a depth : Int) (bs : List UInt8) (w : World) (pre : List Nat) (W : World) : Prop :=
  W.heap[N]? = some (.cells #[.slice A l c] 23) ∧ W.heap[N + 1]? = some (.cells #[.int .i64 a] 3) ∧ W.heap[N + 2]? = some (.cells #[.int .i64 (depth - (pre.length : Nat))] 3) ∧
    W.heap[N + 3]? = some (.cells #[.int .i64 ((foldM bs a pre).1 : Nat)] 3) ∧ W.heap[N + 4]? = some (.cells #[.int .i64 ((foldM bs a pre).2 : Nat)] 3) ∧ Below N w W
theorem ownS_BI (N B : Nat) (A : Option Addr) (l c : Nat) (a depth : Int) (bs : List UInt8) (w : World) (hn : N ≤ w.heap.size) (hB : N ≤ B) : OwnS B (fun _ => False) (BI N A l c a depth bs w) :=
  (ownS_box (cs := fun _ => #[.slice A l c])).and ((ownS_box (cs := fun _ => #[.int .i64 a])).and ((ownS_box (cs := fun pre : List Nat => #[.int .i64 (depth - (pre.length : Nat))])).and
    ((ownS_box (cs := fun pre => #[.int .i64 ((foldM bs a pre).1 : Nat)])).and ((ownS_box (cs := fun pre => #[.int .i64 ((foldM bs a pre).2 : Nat)])).and (ownS_below hn hB (fun _ h => h.elim))))))

theorem alloc_keep {W : World} {k : Nat} {o : Obj} (h : W.heap[k]? = some o) (o' : Obj) : (W.alloc o').heap[k]? = some o := (Below.heap_alloc W o' k (Array.getElem?_eq_some_iff.1 h).1).trans h
theorem cells_drewN {W : World} {m k : Nat} {o : Obj} (h : W.heap[k]? = some o) : (W.drewN m).heap[k]? = some o := h
theorem heap_set_other {W : World} {k b : Nat} {o : Obj} {v : Value} (h : W.heap[k]? = some o) (hk : k ≠ b) : (W.setCell ⟨b, 0, none⟩ v).heap[k]? = some o := (Below.heap_setCell W ⟨b, 0, none⟩ v k hk).trans h
theorem heap_set_one {W : World} {b : Nat} {v u : Value} {t : TypeId} (h : W.heap[b]? = some (.cells #[u] t)) : (W.setCell ⟨b, 0, none⟩ v).heap[b]? = some (.cells #[v] t) := heap_setCell_same W b 0 _ _ _ h
theorem KeepsOthers.drewN (W : World) (m : Nat) : KeepsOthers W (W.drewN m) := ⟨Nat.le_refl _, fun _ _ h _ => h⟩
theorem bi_gt {N : Nat} {A : Option Addr} {l c : Nat} {a depth : Int} {bs : List UInt8} {w W : World} {pre : List Nat} {x : Nat} (h : BI N A l c a depth bs w pre W) (m : Nat) (hgt : (foldM bs a pre).1 < lenI bs a (x : Int)) (dv : Int) (hdv : dv = depth - ((pre ++ [x]).length : Nat)) :
    BI N A l c a depth bs w (pre ++ [x]) ((((W.drewN m).setCell ⟨N + 3, 0, none⟩ (.int .i64 (lenI bs a (x : Int) : Nat))).setCell ⟨N + 4, 0, none⟩ (.int .i64 (x : Int))).setCell ⟨N + 2, 0, none⟩ (.int .i64 dv)) ∧
    KeepC (S3 N) W ((((W.drewN m).setCell ⟨N + 3, 0, none⟩ (.int .i64 (lenI bs a (x : Int) : Nat))).setCell ⟨N + 4, 0, none⟩ (.int .i64 (x : Int))).setCell ⟨N + 2, 0, none⟩ (.int .i64 dv)) ∧
    KeepsOthers W ((((W.drewN m).setCell ⟨N + 3, 0, none⟩ (.int .i64 (lenI bs a (x : Int) : Nat))).setCell ⟨N + 4, 0, none⟩ (.int .i64 (x : Int))).setCell ⟨N + 2, 0, none⟩ (.int .i64 dv)) := by
  obtain ⟨h0, h1, h2, h3, h4, hb⟩ := h
  have hf : foldM bs a (pre ++ [x]) = (lenI bs a (x : Int), x) := by rw [foldM_snoc, stepM, if_pos hgt]
  refine ⟨⟨?_, ?_, ?_, ?_, ?_, ?_⟩, ?_, ?_⟩
  · exact heap_set_other (heap_set_other (heap_set_other (cells_drewN h0) (by omega)) (by omega)) (by omega)
  · exact heap_set_other (heap_set_other (heap_set_other (cells_drewN h1) (by omega)) (by omega)) (by omega)
  · rw [← hdv]; exact heap_set_one (heap_set_other (heap_set_other (cells_drewN h2) (by omega)) (by omega))
  · rw [hf]; exact heap_set_other (heap_set_other (heap_set_one (cells_drewN h3)) (by omega)) (by omega)
  · rw [hf]; exact heap_set_other (heap_set_one (heap_set_other (cells_drewN h4) (by omega))) (by omega)
  · exact (((Below.drewN hb m).setCell (p := ⟨N + 3, 0, none⟩) (by show N ≤ N + 3; omega) _).setCell (p := ⟨N + 4, 0, none⟩) (by show N ≤ N + 4; omega) _).setCell (p := ⟨N + 2, 0, none⟩) (by show N ≤ N + 2; omega) _
  · exact ((KeepC.set (S := S3 N) (W := W.drewN m) ⟨N + 3, 0, none⟩ _ (.inr (.inl rfl))).trans (KeepC.set ⟨N + 4, 0, none⟩ _ (.inr (.inr rfl)))).trans (KeepC.set ⟨N + 2, 0, none⟩ _ (.inl rfl))
  · exact (((KeepsOthers.drewN W m).trans (KeepsOthers.setCell _ _ _)).trans (KeepsOthers.setCell _ _ _)).trans (KeepsOthers.setCell _ _ _)
theorem bi_le {N : Nat} {A : Option Addr} {l c : Nat} {a depth : Int} {bs : List UInt8} {w W : World} {pre : List Nat} {x : Nat} (h : BI N A l c a depth bs w pre W) (m : Nat) (hgt : ¬ (foldM bs a pre).1 < lenI bs a (x : Int)) (dv : Int) (hdv : dv = depth - ((pre ++ [x]).length : Nat)) :
    BI N A l c a depth bs w (pre ++ [x]) ((W.drewN m).setCell ⟨N + 2, 0, none⟩ (.int .i64 dv)) ∧ KeepC (S3 N) W ((W.drewN m).setCell ⟨N + 2, 0, none⟩ (.int .i64 dv)) ∧ KeepsOthers W ((W.drewN m).setCell ⟨N + 2, 0, none⟩ (.int .i64 dv)) := by
  obtain ⟨h0, h1, h2, h3, h4, hb⟩ := h
  have hf : foldM bs a (pre ++ [x]) = foldM bs a pre := by rw [foldM_snoc, stepM, if_neg hgt]
  refine ⟨⟨?_, ?_, ?_, ?_, ?_, ?_⟩, ?_, ?_⟩
  · exact heap_set_other (cells_drewN h0) (by omega)
  · exact heap_set_other (cells_drewN h1) (by omega)
  · rw [← hdv]; exact heap_set_one (cells_drewN h2)
  · rw [hf]; exact heap_set_other (cells_drewN h3) (by omega)
  · rw [hf]; exact heap_set_other (cells_drewN h4) (by omega)
  · exact (Below.drewN hb m).setCell (p := ⟨N + 2, 0, none⟩) (by show N ≤ N + 2; omega) _
  · exact KeepC.set (S := S3 N) (W := W.drewN m) ⟨N + 2, 0, none⟩ _ (.inl rfl)
  · exact (KeepsOthers.drewN W m).trans (KeepsOthers.setCell _ _ _)
set_option maxRecDepth 100000 in
set_option maxHeartbeats 4000000 in
theorem best_in (gf : Nat) (lb : Array Value) (A : Option Addr) (l c : Nat) (bs : List UInt8) (a depth : Int) (w : World) (hl : bs.length = l) (hm : l ≤ 1099511627776) (hb : Bytes w w.heap.size A bs) (hdp : depth ≤ 9223372036854775807) (hdn : -9223372036854775808 ≤ depth)
    (eg : ∀ args w, (callFunc gf args).run Tryz.prog w = .ok (.enter gf args) w)
    (hseq : ∀ (N : Nat) (W : World), w.heap.size ≤ N → Below w.heap.size w W → N + 4 < W.heap.size → SeqS Fence.wide 5 Tryz.prog gf lb (fun x : Nat => #[.int .i64 (x : Int)]) (KeepC (S3 N)) (fun _ => False) (fun xs => xs = cands bs a) (fun pre => pre <+: cands bs a) 32769 W) :
    Calls Tryz.prog 81 #[.slice A l c, .int .i64 a, .int .i64 depth, .func (.func gf) #[] lb] w fun e w' => e = .returned (.tuple #[.int .i64 ((bestM bs a depth).1 : Nat), .int .i64 ((bestM bs a depth).2 : Nat)]) ∧ Below w.heap.size w w' := by
  have HL := Lib.hid hl
  have HBY := Lib.hid hb
  by_cases h1 : depth < 1
  · have hd : decide (depth < 1) = true := decide_eq_true h1
    have HZ : Hid (bestM bs a depth = (0, 0)) := by show _ = _; rw [bestM, show depth.toNat = 0 by omega, List.take_zero]; rfl
    clear h1 HBY hb hseq eg
    go_enter Tryz.func81, Tryz.ntmps81
    go_wp2
    refine bodyPost_ret (v := .tuple #[.int .i64 0, .int .i64 0]) (by simp [results, Tryz.f81, go_sem]) rfl ⟨by rw [HZ.out]; rfl, ?_⟩
    exact (((((Below.refl _ w).alloc (Nat.le_refl _) _).alloc (by simp) _).alloc (by simp; omega) _).alloc (by simp; omega) _).alloc (by simp; omega) _
  · have hd : decide (depth < 1) = false := decide_eq_false h1
    refine (callsIn_wide (n := 6)).1 ?_
    refine callsIn_of_wp_marks Tryz.func81 rfl trivial ?_ rfl
    simp only [Tryz.ntmps81, List.size_toArray, List.length_cons, List.length_nil, Nat.reduceAdd, Nat.reduceSub, Array.replicate_succ, Array.replicate_zero, List.push_toArray, List.append_toArray, List.nil_append, List.cons_append]
    gi_wp2
    obtain ⟨W4, hW4⟩ : ∃ W4, ((((w.alloc (.cells #[.slice A l c] 23)).alloc (.cells #[.int .i64 a] 3)).alloc (.cells #[.int .i64 depth] 3)).alloc (.cells #[.int .i64 0] 3)).alloc (.cells #[.int .i64 0] 3) = W4 := ⟨_, rfl⟩
    have hz4 : W4.heap.size = w.heap.size + 5 := by rw [← hW4]; simp
    have hbi : BI w.heap.size A l c a depth bs w [] W4 := by
      rw [← hW4]
      refine ⟨?_, ?_, ?_, ?_, ?_, ?_⟩
      · exact alloc_keep (alloc_keep (alloc_keep (alloc_keep (heap_alloc_new w _) _) _) _) _
      · have h := heap_alloc_new (w.alloc (.cells #[.slice A l c] 23)) (.cells #[.int .i64 a] 3)
        rw [World.size_alloc] at h
        exact alloc_keep (alloc_keep (alloc_keep h _) _) _
      · have h := heap_alloc_new ((w.alloc (.cells #[.slice A l c] 23)).alloc (.cells #[.int .i64 a] 3)) (.cells #[.int .i64 depth] 3)
        rw [World.size_alloc, World.size_alloc] at h
        simp only [List.length_nil, Int.natCast_zero, Int.sub_zero]
        exact alloc_keep (alloc_keep h _) _
      · have h := heap_alloc_new (((w.alloc (.cells #[.slice A l c] 23)).alloc (.cells #[.int .i64 a] 3)).alloc (.cells #[.int .i64 depth] 3)) (.cells #[.int .i64 0] 3)
        rw [World.size_alloc, World.size_alloc, World.size_alloc] at h
        exact alloc_keep h _
      · have h := heap_alloc_new ((((w.alloc (.cells #[.slice A l c] 23)).alloc (.cells #[.int .i64 a] 3)).alloc (.cells #[.int .i64 depth] 3)).alloc (.cells #[.int .i64 0] 3)) (.cells #[.int .i64 0] 3)
        rw [World.size_alloc, World.size_alloc, World.size_alloc, World.size_alloc] at h
        exact h
      · exact (((((Below.refl _ w).alloc (Nat.le_refl _) _).alloc (by simp) _).alloc (by simp; omega) _).alloc (by simp; omega) _).alloc (by simp; omega) _
    rw [hW4]
    have HSEQ := Lib.hid (hseq w.heap.size W4 (Nat.le_refl _) hbi.2.2.2.2.2 (by omega))
    have HBI := Lib.hid hbi
    have HZ4 := Lib.hid hz4
    have HDP : Hid (1 ≤ depth) := by show _ ≤ _; omega
    rw [show w.heap.size + 1 + 1 + 1 + 1 = w.heap.size + 4 from rfl, show w.heap.size + 1 + 1 + 1 = w.heap.size + 3 from rfl, show w.heap.size + 1 + 1 = w.heap.size + 2 from rfl]
    clear hW4 hseq hbi hz4 h1 hl hb
    generalize hNN : w.heap.size = N at *
    have HNN := Lib.hid hNN
    clear hNN
    refine wpIn_rangeFunc_S rfl (by omega) (gf := gf) (lb := lb) rfl trivial eg HSEQ.out
      (fun r hr => hr.elim) (fun h k => h.trans k) (fun W l o o' _ ho hc _ => KeepC.putObj _ W l o o' ho hc) (Below.refl _ _) (fun _ => rfl)
      (fun pre W => (((pre.length : Nat) : Int) < depth ∧ (foldM bs a pre).1 ≠ 258) ∧ BI N A l c a depth bs w pre W)
      (fun cd pre W => (cd = .exit 0 ∧ ((pre.length : Nat) : Int) ≤ depth ∧ (((pre.length : Nat) : Int) = depth ∨ (foldM bs a pre).1 = 258)) ∧ BI N A l c a depth bs w pre W)
      (ownS_pure.and (ownS_BI N _ A l c a depth bs w (by rw [HNN.out]; exact Nat.le_refl _) (by have := HZ4.out; omega)))
      (fun _ => ownS_pure.and (ownS_BI N _ A l c a depth bs w (by rw [HNN.out]; exact Nat.le_refl _) (by have := HZ4.out; omega)))
      ⟨⟨by have := HDP.out; simp; omega, by simp [foldM]⟩, HBI.out⟩
      (fun x => { tmps := #[.slice A l c, .int .i64 a, .int .i64 depth, .func (.func gf) #[] lb, .pointer (some ⟨N, 0, none⟩), .pointer (some ⟨N + 1, 0, none⟩), .pointer (some ⟨N + 2, 0, none⟩), undef, .pointer (some ⟨N + 3, 0, none⟩), .pointer (some ⟨N + 4, 0, none⟩), .int .i64 (x : Int), undef,
        .int .i64 depth, .bool false, .func (.func gf) #[] lb, .int .i64 (x : Int), undef, undef, undef, undef, undef, undef, undef, undef, undef, undef, undef, undef, undef, undef, undef, undef, undef, undef, undef], defers := [] }) ?assign ?body ?done ?stop
    case assign =>
      intro g x W K hK
      gi_wp2
      exact hK
    case body =>
      rintro g pre x W ⟨⟨hp1, hp2⟩, hbi⟩ hlen
      have c0 := cell_of_row W N 0 _ _ _ hbi.1
      have c1 := cell_of_row W (N + 1) 0 _ _ _ hbi.2.1
      have c2 := cell_of_row W (N + 2) 0 _ _ _ hbi.2.2.1
      have c3 := cell_of_row W (N + 3) 0 _ _ _ hbi.2.2.2.1
      have c4 := cell_of_row W (N + 4) 0 _ _ _ hbi.2.2.2.2.1
      have f2 := frozen_of_row W (N + 2) 0 _ _ hbi.2.2.1
      have f3 := frozen_of_row W (N + 3) 0 _ _ hbi.2.2.2.1
      have f4 := frozen_of_row W (N + 4) 0 _ _ hbi.2.2.2.2.1
      obtain ⟨dv, hdv⟩ : ∃ dv, depth - ((pre.length : Nat) : Int) = dv := ⟨_, rfl⟩
      obtain ⟨fn, hfn⟩ : ∃ fn, (foldM bs a pre).1 = fn := ⟨_, rfl⟩
      obtain ⟨fd, hfd⟩ : ∃ fd, (foldM bs a pre).2 = fd := ⟨_, rfl⟩
      obtain ⟨ln, hln⟩ : ∃ ln, lenI bs a (x : Int) = ln := ⟨_, rfl⟩
      rw [hdv] at c2
      rw [hfn] at c3
      rw [hfd] at c4
      have hw : IntKind.i64.wrap (dv - 1) = dv - 1 := IntWalk.i64_in _ (by omega)
      have hdv2 : dv - 1 = depth - ((pre ++ [x]).length : Nat) := by rw [← hdv, List.length_append, List.length_singleton]; omega
      have hbyW : Bytes W N A bs := HBY.out.below hbi.2.2.2.2.2 (Nat.le_refl _)
      have HLN := Lib.hid (mlen_any A l c bs N a (x : Int) W HL.out hm hbyW)
      rw [hln] at HLN
      have HB := Lib.hid hbi
      have HDV2 := Lib.hid hdv2
      have HPL : Hid (((pre ++ [x]).length : Nat) = pre.length + 1) := by show _ = _; simp
      have HF : Hid (foldM bs a (pre ++ [x]) = if fn < ln then (ln, x) else foldM bs a pre) := by show _ = _; rw [foldM_snoc, stepM, hfn, hln]
      have HDV := Lib.hid hdv
      have HP1 := Lib.hid hp1
      have HFN := Lib.hid hfn
      have HP2 := Lib.hid hp2
      clear hdv2 hbyW hbi hdv hp1 hp2
      by_cases hgt : fn < ln
      · have HGT := Lib.hid (fun m : Nat => bi_gt HB.out m (by rw [hfn, hln]; exact hgt) (dv - 1) HDV2.out)
        rw [hln] at HGT
        have HF2 : Hid ((foldM bs a (pre ++ [x])).1 = ln) := by show _ = _; rw [HF.out, if_pos hgt]
        clear hln hfn hfd
        by_cases hz : dv - 1 = 0
        · have tz : decide (dv - 1 = 0) = true := decide_eq_true hz
          have tb : (dv - 1 == 0) = true := by simpa using hz
          have HZ := Lib.hid hz
          clear hz
          gi_wp2_with (refine ⟨trivial, ?_⟩; gi_at_call 89; refine (CallsIn.inRound g (callsIn_wide.2 HLN.out)).mono ?_; rintro e w' ⟨rfl, m, rfl⟩)
          obtain ⟨q1, q2, q3⟩ := HGT.out m
          exact ⟨q3, ⟨rfl, by have := HP1.out; have := HPL.out; omega, .inl (by have := HZ.out; have := HDV2.out; omega)⟩, q1⟩
        · have tb : (dv - 1 == 0) = false := by simpa using hz
          have HZ := Lib.hid hz
          clear hz
          by_cases h2 : ln = 258
          · have tc : ((ln : Int) == 258) = true := by simp; omega
            have H2 := Lib.hid h2
            clear h2
            gi_wp2_with (refine ⟨trivial, ?_⟩; gi_at_call 89; refine (CallsIn.inRound g (callsIn_wide.2 HLN.out)).mono ?_; rintro e w' ⟨rfl, m, rfl⟩)
            obtain ⟨q1, q2, q3⟩ := HGT.out m
            exact ⟨q3, ⟨rfl, by have := HP1.out; have := HPL.out; omega, .inr (by rw [HF2.out, H2.out])⟩, q1⟩
          · have tc : ((ln : Int) == 258) = false := by simp; omega
            have H2 := Lib.hid h2
            clear h2
            gi_wp2_with (refine ⟨trivial, ?_⟩; gi_at_call 89; refine (CallsIn.inRound g (callsIn_wide.2 HLN.out)).mono ?_; rintro e w' ⟨rfl, m, rfl⟩)
            obtain ⟨q1, q2, q3⟩ := HGT.out m
            exact ⟨q3, q2, ⟨by have := HP1.out; have := HPL.out; have := HZ.out; have := HDV2.out; omega, by rw [HF2.out]; exact H2.out⟩, q1⟩
      · have HGT := Lib.hid (fun m : Nat => bi_le HB.out m (by rw [hfn, hln]; exact hgt) (dv - 1) HDV2.out)
        have HF2 : Hid ((foldM bs a (pre ++ [x])).1 = fn) := by show _ = _; rw [HF.out, if_neg hgt, hfn]
        have h258 : ((fn : Int) == 258) = false := by have := HP2.out; rw [hfn] at this; simp; omega
        clear hln hfn hfd
        by_cases hz : dv - 1 = 0
        · have tb : (dv - 1 == 0) = true := by simpa using hz
          have HZ := Lib.hid hz
          clear hz
          gi_wp2_with (refine ⟨trivial, ?_⟩; gi_at_call 89; refine (CallsIn.inRound g (callsIn_wide.2 HLN.out)).mono ?_; rintro e w' ⟨rfl, m, rfl⟩)
          obtain ⟨q1, q2, q3⟩ := HGT.out m
          exact ⟨q3, ⟨rfl, by have := HP1.out; have := HPL.out; omega, .inl (by have := HZ.out; have := HDV2.out; omega)⟩, q1⟩
        · have tb : (dv - 1 == 0) = false := by simpa using hz
          have HZ := Lib.hid hz
          clear hz
          gi_wp2_with (refine ⟨trivial, ?_⟩; gi_at_call 89; refine (CallsIn.inRound g (callsIn_wide.2 HLN.out)).mono ?_; rintro e w' ⟨rfl, m, rfl⟩)
          obtain ⟨q1, q2, q3⟩ := HGT.out m
          exact ⟨q3, q2, ⟨by have := HP1.out; have := HPL.out; have := HZ.out; have := HDV2.out; omega, by rw [HF2.out]; have := HP2.out; rw [HFN.out] at this; exact this⟩, q1⟩
    case done =>
      rintro D ys W hD rfl ⟨⟨hp1, hp2⟩, hbi⟩ hK
      have hbm : foldM bs a (cands bs a) = bestM bs a depth := bestM_end (List.prefix_refl _) (by omega) (.inl rfl)
      replace hbi := hbi.2.2.2
      clear hp1 hp2
      obtain ⟨fn, hfn⟩ : ∃ fn, (bestM bs a depth).1 = fn := ⟨_, rfl⟩
      obtain ⟨fd, hfd⟩ : ∃ fd, (bestM bs a depth).2 = fd := ⟨_, rfl⟩
      rw [hbm] at hbi
      rw [hfn, hfd] at hbi
      have c3 := cell_of_row W (N + 3) 0 _ _ _ hbi.1
      have c4 := cell_of_row W (N + 4) 0 _ _ _ hbi.2.1
      have f3 := frozen_of_row W (N + 3) 0 _ _ hbi.1
      have f4 := frozen_of_row W (N + 4) 0 _ _ hbi.2.1
      have HBI2 := Lib.hid hbi
      have HKW := Lib.hid hK
      have HDD := Lib.hid hD
      have HFN := Lib.hid hfn
      have HFD := Lib.hid hfd
      clear hbi hK hbm hD hfn hfd
      gi_wp2
      gi_region
      all_goals
        have hD5 : N + 5 ≤ D := by have := HDD.out; have := HZ4.out; omega
        have h3 : (((W.setCell ⟨N + 3, 0, none⟩ (.int .i64 (fn : Int))).setCell ⟨N + 4, 0, none⟩ (.int .i64 (fd : Int))).drew).heap[N + 3]? = some (.cells #[.int .i64 (fn : Int)] 3) := heap_set_other (heap_set_one HBI2.out.1) (by omega)
        have h4 : (((W.setCell ⟨N + 3, 0, none⟩ (.int .i64 (fn : Int))).setCell ⟨N + 4, 0, none⟩ (.int .i64 (fd : Int))).drew).heap[N + 4]? = some (.cells #[.int .i64 (fd : Int)] 3) := heap_set_one (heap_set_other HBI2.out.2.1 (by omega))
        have hK' : (((W.setCell ⟨N + 3, 0, none⟩ (.int .i64 (fn : Int))).setCell ⟨N + 4, 0, none⟩ (.int .i64 (fd : Int))).drew).heap[D]? = some (.deferred (some [])) := heap_set_other (heap_set_other HKW.out (by omega)) (by omega)
        have hbW : Below N w (((W.setCell ⟨N + 3, 0, none⟩ (.int .i64 (fn : Int))).setCell ⟨N + 4, 0, none⟩ (.int .i64 (fd : Int))).drew) := (Below.drewN ((HBI2.out.2.2.setCell (p := ⟨N + 3, 0, none⟩) (by show N ≤ N + 3; omega) _).setCell (p := ⟨N + 4, 0, none⟩) (by show N ≤ N + 4; omega) _) 1)
        generalize ((W.setCell ⟨N + 3, 0, none⟩ (.int .i64 (fn : Int))).setCell ⟨N + 4, 0, none⟩ (.int .i64 (fd : Int))).drew = W6 at *
        gi_wp2
        refine ⟨by simp, .inl ⟨_, _, rfl, run_takeDeferred hK', ?_⟩⟩
        have hc3 : (W6.putObj D (.deferred none)).cell? ⟨N + 3, 0, none⟩ = some (.int .i64 (fn : Int)) := cell_of_row _ (N + 3) 0 _ _ _ ((World.putObj_heap_other (by omega)).trans h3)
        have hc4 : (W6.putObj D (.deferred none)).cell? ⟨N + 4, 0, none⟩ = some (.int .i64 (fd : Int)) := cell_of_row _ (N + 4) 0 _ _ _ ((World.putObj_heap_other (by omega)).trans h4)
        refine ⟨.tuple #[.int .i64 (fn : Int), .int .i64 (fd : Int)], by simp [results, Tryz.f81, go_sem, hc3, hc4], by rw [HFN.out, HFD.out], ?_⟩
        rw [HNN.out]
        exact hbW.trans ((Below.refl N W6).grown (grownBy_putObj' W6 D _) (by have := (Array.getElem?_eq_some_iff.1 hK').1; omega) (fun k e => by cases e; omega))
    case stop =>
      rintro D cd pre W hD hpre ⟨⟨rfl, hp1, hp2⟩, hbi⟩ hK
      have hbm : foldM bs a pre = bestM bs a depth := bestM_end hpre hp1 (.inr hp2)
      replace hbi := hbi.2.2.2
      clear hp1 hp2 hpre
      obtain ⟨fn, hfn⟩ : ∃ fn, (bestM bs a depth).1 = fn := ⟨_, rfl⟩
      obtain ⟨fd, hfd⟩ : ∃ fd, (bestM bs a depth).2 = fd := ⟨_, rfl⟩
      rw [hbm] at hbi
      rw [hfn, hfd] at hbi
      have c3 := cell_of_row W (N + 3) 0 _ _ _ hbi.1
      have c4 := cell_of_row W (N + 4) 0 _ _ _ hbi.2.1
      have f3 := frozen_of_row W (N + 3) 0 _ _ hbi.1
      have f4 := frozen_of_row W (N + 4) 0 _ _ hbi.2.1
      have HBI2 := Lib.hid hbi
      have HKW := Lib.hid hK
      have HDD := Lib.hid hD
      have HFN := Lib.hid hfn
      have HFD := Lib.hid hfd
      clear hbi hK hbm hD hfn hfd
      gi_wp2
      gi_region
      all_goals
        have hD5 : N + 5 ≤ D := by have := HDD.out; have := HZ4.out; omega
        have h3 : (((W.setCell ⟨N + 3, 0, none⟩ (.int .i64 (fn : Int))).setCell ⟨N + 4, 0, none⟩ (.int .i64 (fd : Int))).drew).heap[N + 3]? = some (.cells #[.int .i64 (fn : Int)] 3) := heap_set_other (heap_set_one HBI2.out.1) (by omega)
        have h4 : (((W.setCell ⟨N + 3, 0, none⟩ (.int .i64 (fn : Int))).setCell ⟨N + 4, 0, none⟩ (.int .i64 (fd : Int))).drew).heap[N + 4]? = some (.cells #[.int .i64 (fd : Int)] 3) := heap_set_one (heap_set_other HBI2.out.2.1 (by omega))
        have hK' : (((W.setCell ⟨N + 3, 0, none⟩ (.int .i64 (fn : Int))).setCell ⟨N + 4, 0, none⟩ (.int .i64 (fd : Int))).drew).heap[D]? = some (.deferred (some [])) := heap_set_other (heap_set_other HKW.out (by omega)) (by omega)
        have hbW : Below N w (((W.setCell ⟨N + 3, 0, none⟩ (.int .i64 (fn : Int))).setCell ⟨N + 4, 0, none⟩ (.int .i64 (fd : Int))).drew) := (Below.drewN ((HBI2.out.2.2.setCell (p := ⟨N + 3, 0, none⟩) (by show N ≤ N + 3; omega) _).setCell (p := ⟨N + 4, 0, none⟩) (by show N ≤ N + 4; omega) _) 1)
        generalize ((W.setCell ⟨N + 3, 0, none⟩ (.int .i64 (fn : Int))).setCell ⟨N + 4, 0, none⟩ (.int .i64 (fd : Int))).drew = W6 at *
        gi_wp2
        refine ⟨by simp, .inl ⟨_, _, rfl, run_takeDeferred hK', ?_⟩⟩
        have hc3 : (W6.putObj D (.deferred none)).cell? ⟨N + 3, 0, none⟩ = some (.int .i64 (fn : Int)) := cell_of_row _ (N + 3) 0 _ _ _ ((World.putObj_heap_other (by omega)).trans h3)
        have hc4 : (W6.putObj D (.deferred none)).cell? ⟨N + 4, 0, none⟩ = some (.int .i64 (fd : Int)) := cell_of_row _ (N + 4) 0 _ _ _ ((World.putObj_heap_other (by omega)).trans h4)
        refine ⟨.tuple #[.int .i64 (fn : Int), .int .i64 (fd : Int)], by simp [results, Tryz.f81, go_sem, hc3, hc4], by rw [HFN.out, HFD.out], ?_⟩
        rw [HNN.out]
        exact hbW.trans ((Below.refl N W6).grown (grownBy_putObj' W6 D _) (by have := (Array.getElem?_eq_some_iff.1 hK').1; omega) (fun k e => by cases e; omega))
end Go.Proofs.YtaknladkodibaaaGreat
/- Layer 10: the candidates, as a finder tells them. -/
namespace Go.Proofs.YtaknladkodibaaaGreat
open Go.RowKit Go.Shelf
attribute [local go_sem] Oper.semAt_some

set_option maxHeartbeats 400000 in
theorem fcandidates_any (f : Option Addr) (a : Int) (w : World) :
    Calls Tryz.prog 82 #[.pointer f, .int .i64 a] w fun e w' => e = .returned (.func (.func 90) #[] #[.pointer (some ⟨w.heap.size, 0, none⟩), .pointer (some ⟨w.heap.size + 1, 0, none⟩)]) ∧
      (w.alloc (.cells #[.pointer f] 93)).alloc (.cells #[.int .i64 a] 3) = w' := by
  go_enter Tryz.func82, Tryz.ntmps82
  go_wp2
  go_ret
  exact ⟨rfl, rfl⟩
set_option maxRecDepth 100000 in
set_option maxHeartbeats 2000000 in
theorem fcand_seq (S : Nat → Prop) (B b1 b2 g g0 : Nat) (A : Option Addr) (l c : Nat) (bs : List UInt8) (a : Int) (w0 : World) (hl : bs.length = l) (hm : l ≤ 32000)
    (hS : ∀ k, S k → B ≤ k ∧ k ≠ b1 ∧ k ≠ b2) (hgB : g < B) (hg0B : g0 < B)
    (h1 : w0.heap[b1]? = some (.cells #[.pointer (some ⟨g, 0, none⟩)] 93)) (h2 : w0.heap[b2]? = some (.cells #[.int .i64 a] 3)) (hf : LF w0 g g0 A l c bs) :
    SeqS Fence.wide 5 Tryz.prog 90 #[.pointer (some ⟨b1, 0, none⟩), .pointer (some ⟨b2, 0, none⟩)] (fun x : Nat => #[.int .i64 (x : Int)]) (KeepC S) (fun _ => False) (fun xs => xs = cands bs a) (fun pre => pre <+: cands bs a) 32769 w0 := by
  intro gy J Jx W hbl hJ hJx hY h0
  have HL := Lib.hid hl
  have h1W := (hbl.block b1 (Array.getElem?_eq_some_iff.1 h1).1).trans h1
  have h2W := (hbl.block b2 (Array.getElem?_eq_some_iff.1 h2).1).trans h2
  have hfW : LF W g g0 A l c bs := hf.below hbl (Array.getElem?_eq_some_iff.1 hf.1).1 (Array.getElem?_eq_some_iff.1 hf.2).1
  have c1 : W.cell? ⟨b1, 0, none⟩ = some (.pointer (some ⟨g, 0, none⟩)) := cell_of_row W b1 0 _ _ _ h1W
  have c2 : W.cell? ⟨b2, 0, none⟩ = some (.int .i64 a) := cell_of_row W b2 0 _ _ _ h2W
  have c3 : W.cell? ⟨g, 0, none⟩ = some (.slice A l c) := cell_of_row W g 0 _ _ _ hfW.1
  have c4 : W.cell? ⟨g, 1, none⟩ = some (.slice (some ⟨g0, 0, none⟩) l l) := cell_of_row W g 1 _ _ _ hfW.1
  have HBN := Lib.hid (fun k : Nat => begins_any A l c a (W.drewN k) (by omega))
  have HUB := Lib.hid hfW.2
  have HS := Lib.hid hS
  have HY := Lib.hid hY
  clear h1 h2 hf hl hS hY h1W h2W hfW
  cases hbg : begM l a with
  | false =>
    have HBG := Lib.hid (begB_no HL.out hbg)
    rw [hbg] at HBN
    refine callsIn_of_wp Tryz.func90 rfl trivial ?_ rfl
    simp only [Tryz.ntmps90, List.size_toArray, List.length_cons, List.length_nil, Nat.reduceAdd, Nat.reduceSub, Array.replicate_succ, Array.replicate_zero, List.push_toArray, List.append_toArray, List.nil_append, List.cons_append]
    gi_wp2_with fail
    refine wpIn_region_quiet_lit rfl (by kernel_rfl) (by kernel_rfl) ?_
    repeat (gi_big_quiet_step (fail))
    refine wpQuietIn_step (fun _ _ _ _ => trivial) (fun K hK => ?_)
    go_simp
    apply Exists.intro
    refine ⟨fun k => ?_, hK _ ?_⟩
    · exact callsIn_wide.2 (quiet_left' (HBN.out k))
    clear hK K
    repeat (gi_big_quiet_step (fail))
    refine wpQuietIn_nil ?_
    intro _ hw'
    obtain ⟨nq, hw''⟩ := hw'
    subst hw''
    gi_wp2
    refine bodyPost_ret (results_none rfl _ _ _) rfl ?_
    exact ⟨⟨_, rfl⟩, .inl ⟨[], HBG.out.symm, abidesDrewN hJ h0 _⟩⟩
  | true =>
    obtain ⟨q0, q1⟩ := begB_yes hbg
    obtain ⟨n, rfl⟩ := Int.eq_ofNat_of_zero_le q0
    have hn3 : n + 3 ≤ l := by omega
    have HCA : Hid (cands bs (n : Int) = candN bs n (min n 32768)) := cands_at (by rw [HL.out]; exact hn3)
    rw [hbg] at HBN
    have HN1 : Hid (¬ S b1) := fun h => (HS.out b1 h).2.1 rfl
    have HN2 : Hid (¬ S b2) := fun h => (HS.out b2 h).2.2 rfl
    have HN3 : Hid (¬ S g) := fun h => by have := (HS.out g h).1; omega
    have HN4 : Hid (¬ S g0) := fun h => by have := (HS.out g0 h).1; omega
    clear hbg q0 q1
    refine callsIn_of_wp Tryz.func90 rfl trivial ?_ rfl
    simp only [Tryz.ntmps90, List.size_toArray, List.length_cons, List.length_nil, Nat.reduceAdd, Nat.reduceSub, Array.replicate_succ, Array.replicate_zero, List.push_toArray, List.append_toArray, List.nil_append, List.cons_append]
    gi_wp2_with fail
    refine wpIn_region_quiet_lit rfl (by kernel_rfl) (by kernel_rfl) ?_
    repeat (gi_big_quiet_step (fail))
    refine wpQuietIn_step (fun _ _ _ _ => trivial) (fun K hK => ?_)
    go_simp
    apply Exists.intro
    refine ⟨fun k => ?_, hK _ ?_⟩
    · exact callsIn_wide.2 (quiet_left' (HBN.out k))
    clear hK K
    repeat (gi_big_quiet_step (fail))
    refine wpQuietIn_nil ?_
    intro _ hw'
    obtain ⟨nq, hw''⟩ := hw'
    subst hw''
    gi_wp2
    gi_loopw [4] (fun i wr => ∃ e : Nat, i = .int .i64 (e : Int) ∧ (e ≤ n ∧ e ≤ 32768 ∧ bg bs (n - e) = bg bs n) ∧ wr.cell? ⟨b1, 0, none⟩ = some (.pointer (some ⟨g, 0, none⟩)) ∧ wr.cell? ⟨b2, 0, none⟩ = some (.int .i64 n) ∧
      wr.cell? ⟨g, 1, none⟩ = some (.slice (some ⟨g0, 0, none⟩) l l) ∧ (∀ (j d : Nat), (dL bs l (l - 2))[j]? = some d → wr.cell? ⟨g0, j, none⟩ = some (.int .u16 (d : Int))) ∧ J (candN bs n e) wr) (fun i _ => n + 1 - (intOf i).toNat)
    case atStart => exact ⟨0, rfl, ⟨Nat.zero_le _, by omega, rfl⟩, c1, c2, c4, fun j d hj => ub_cell HUB.out hj, abidesDrewN hJ h0 _⟩
    case round =>
      obtain ⟨e, rfl, ⟨he1, he2, he3⟩, e1, e2, e4, eu, hJs⟩ := hrel
      clear c1 c2 c3 c4
      obtain ⟨q, hq⟩ : ∃ q, n - e = q := ⟨_, rfl⟩
      obtain ⟨db, hdb⟩ : ∃ db, dB bs q = db := ⟨_, rfl⟩
      have hstep := dB_step he1 he3
      rw [hq, hdb] at hstep
      have HST := Lib.hid hstep
      have d0 : wr.cell? ⟨g0, q, none⟩ = some (.int .u16 (db : Int)) := eu q db (by rw [dL_get bs l (l - 2) (by omega), if_pos (by omega), hdb])
      have hdle : db ≤ 32768 := by rw [← hdb]; exact dB_le bs q
      have hsub : (n : Int) - (e : Int) = (q : Int) := by omega
      have hwq : IntKind.i64.wrap (q : Int) = (q : Int) := IntWalk.i64_in _ (by omega)
      have hql : q < l := by omega
      have HEU := Lib.hid eu
      clear hstep hdb eu he3
      by_cases hz : db = 0
      · have HCE : Hid (cands bs (n : Int) = candN bs n e) := by show _ = _; rw [HCA.out, HST.out.1 hz, show min e (min n 32768) = e by omega]
        subst hz
        gi_wp2_with fail
        gi_quiet (fail)
        gi_wp2
        go_end0
        exact ⟨⟨_, rfl⟩, .inl ⟨candN bs n e, HCE.out.symm, abidesDrewN hJ hJs _⟩⟩
      · have t0 : decide ((0 : Int) < (db : Int)) = true := decide_eq_true (by omega)
        have t0' : decide (0 < db) = true := decide_eq_true (by omega)
        obtain ⟨k1, k2, k3, _⟩ := HST.out.2 (by omega)
        obtain ⟨e', he'⟩ : ∃ e', e + db = e' := ⟨_, rfl⟩
        rw [he'] at k1 k2 k3
        have hadd : (e : Int) + (db : Int) = (e' : Int) := by omega
        have hwe : IntKind.i64.wrap (e' : Int) = (e' : Int) := IntWalk.i64_in _ (by omega)
        have HK2 := Lib.hid k2
        have HK3 := Lib.hid k3
        clear k2 k3
        gi_wp2_with fail
        gi_quiet (fail)
        obtain ⟨n1, rfl⟩ : ∃ n1, n1 = nq := ⟨_, rfl⟩
        gi_wp2_with fail
        gi_quiet (fail)
        have hJ2 := abidesDrewN hJ hJs (n1 + nq)
        by_cases hbig : 32768 < e'
        · exact absurd hbig (by omega)
        · have t1 : decide ((32768 : Int) < (e' : Int)) = false := decide_eq_false (by omega)
          have HPX : Hid (candN bs n e' <+: cands bs (n : Int)) := by
            show _ <+: _
            rw [HCA.out]
            exact candN_pre bs n (by omega)
          obtain ⟨fn, tmps, assign, body, hy, hR⟩ := HY.out (candN bs n e) e' (wr.drewN (n1 + nq)) hJ2 (by have := candN_len bs n e; omega)
          have HR := Lib.hid hR
          clear hR
          rw [← HK3.out] at HR
          gi_wp2
          refine HR.out.mono ?_
          rintro ee W3 (⟨rfl, hJ3, hk3⟩ | ⟨rfl, hJx3⟩)
          · have e1' := hk3.cell (show (wr.drewN (n1 + nq)).cell? ⟨b1, 0, none⟩ = _ from e1) HN1.out
            have e2' := hk3.cell (show (wr.drewN (n1 + nq)).cell? ⟨b2, 0, none⟩ = _ from e2) HN2.out
            have e4' := hk3.cell (show (wr.drewN (n1 + nq)).cell? ⟨g, 1, none⟩ = _ from e4) HN3.out
            have eu' : ∀ (j d : Nat), (dL bs l (l - 2))[j]? = some d → W3.cell? ⟨g0, j, none⟩ = some (.int .u16 (d : Int)) := fun j d hj => hk3.cell (show (wr.drewN (n1 + nq)).cell? ⟨g0, j, none⟩ = _ from HEU.out j d hj) HN4.out
            gi_wp2
            refine ⟨⟨e', rfl, ⟨k1, by omega, HK2.out⟩, e1', e2', e4', eu', hJ3⟩, ?_⟩
            simp [intOf]
            omega
          · gi_wp2
            refine bodyPost_ret (results_none rfl _ _ _) rfl ?_
            exact ⟨⟨_, rfl⟩, .inr ⟨candN bs n e', HPX.out, hJx3⟩⟩
end Go.Proofs.YtaknladkodibaaaGreat
