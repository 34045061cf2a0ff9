/- Layer 10: the finder, plainly; the keys of its map. -/
import Derived.Test.YtkikgidmioofaaaGreatMgB31
import Derived.Maps.OwnSet
import Derived.Maps.Views
import Derived.DeepKeys4
namespace Go.Proofs.YtkikgidmioofaaaGreat
open Go.RowKit Go.Maps

theorem laidOutM : laidOutB Tryz.prog = true := by kernel_rfl
set_option maxRecDepth 100000 in
theorem begRow : (186 : TypeId) < Tryz.prog.types.size := of_decide_eq_true (by kernel_rfl)
theorem begCells : Tryz.prog.cellsOf 186 = 3 := by kernel_rfl
theorem byteCells1 : Tryz.prog.cellsOf 5 = 1 := by kernel_rfl
theorem begWide : (match Tryz.prog.underlying 186 with | some (.array _ _) | some (.struct _) => true | _ => false) = true := by rw [Tryz.underlying186]
set_option maxRecDepth 100000 in
theorem begLaw : Keyed Tryz.prog 186 := Keyed.of_law (deep_law_laid laidOutM (m := 2) (by omega) begRow (by kernel_rfl) begWide)
theorem begKeyType : Tryz.prog.keyType 186 = true := by kernel_rfl
/-- Three bytes. -/
abbrev B3 := UInt8 × UInt8 × UInt8
def agB (x : B3) : Value := .agg #[.int .u8 (x.1.toNat : Int), .int .u8 (x.2.1.toNat : Int), .int .u8 (x.2.2.toNat : Int)]
theorem u8wf (x : UInt8) : (Lit.int .u8 (x.toNat : Int)).wf = true := by
  have := UInt8.toNat_lt x
  simp [Lit.wf, IntKind.min, IntKind.max, IntKind.signed, IntKind.bits]
  omega
theorem key_byte (n : Nat) (z : UInt8) : Tryz.prog.keyLits (n + 1) 5 [.int .u8 (z.toNat : Int)] = some [.int .u8 (z.toNat : Int)] := by
  unfold Program.keyLits
  simp [Tryz.underlying5, u8wf]
theorem key_lits (n : Nat) (x : B3) : Tryz.prog.keyLits (n + 1 + 1) 186 [.int .u8 (x.1.toNat : Int), .int .u8 (x.2.1.toNat : Int), .int .u8 (x.2.2.toNat : Int)] = some [.int .u8 (x.1.toNat : Int), .int .u8 (x.2.1.toNat : Int), .int .u8 (x.2.2.toNat : Int)] := by
  unfold Program.keyLits
  simp [Tryz.underlying186, begCells, byteCells1, List.range, List.range.loop, key_byte]
def klit (x : B3) : Lit := .string (keyBytes [.int .u8 (x.1.toNat : Int), .int .u8 (x.2.1.toNat : Int), .int .u8 (x.2.2.toNat : Int)])
set_option maxRecDepth 100000 in
theorem klit_key (x : B3) : keyOf Tryz.prog 186 (agB x) = some (klit x) := by
  obtain ⟨n, hn⟩ : ∃ n, Tryz.prog.types.size = n + 1 := ⟨Tryz.prog.types.size - 1, (Nat.sub_add_cancel (Nat.succ_le_of_lt (Nat.lt_of_le_of_lt (Nat.zero_le _) begRow))).symm⟩
  have hf : (agB x).formed Tryz.prog 186 = true := by
    simp [Value.formed, agB, Tryz.underlying186, begCells]
  unfold keyOf
  rw [Tryz.underlying186]
  dsimp only
  rw [begKeyType, hf, hn]
  have e : (agB x).cells.toList = [.int .u8 (x.1.toNat : Int), .int .u8 (x.2.1.toNat : Int), .int .u8 (x.2.2.toNat : Int)] := rfl
  rw [e, key_lits]
  rfl
theorem agB_inj {x y : B3} (h : agB x = agB y) : x = y := by
  obtain ⟨x0, x1, x2⟩ := x
  obtain ⟨y0, y1, y2⟩ := y
  unfold agB at h
  obtain ⟨rfl, rfl, rfl⟩ := agg3.1 h
  rfl
theorem klit_inj {x y : B3} (h : klit x = klit y) : x = y := agB_inj (begLaw.inj (klit_key x) (by rw [h]; exact klit_key y))

/-- What a place begins with. -/
def bg (bs : List UInt8) (p : Nat) : B3 := (bs.getD p 0, bs.getD (p + 1) 0, bs.getD (p + 2) 0)
theorem three_bg (bs : List UInt8) (a d : Nat) : three bs a d = decide (bg bs (a - d) = bg bs a) := by
  rw [Bool.eq_iff_iff, decide_eq_true_eq]
  unfold three bg
  rw [Bool.and_eq_true, Bool.and_eq_true, beq_iff_eq, beq_iff_eq, beq_iff_eq, Prod.mk.injEq, Prod.mk.injEq, and_assoc]
/-- The place behind the last one below m that begins so; 0: none does. -/
def backB (bs : List UInt8) (x : B3) : Nat → Nat
  | 0 => 0
  | m + 1 => if bg bs m = x then m + 1 else backB bs x m
theorem backB_le (bs : List UInt8) (x : B3) : ∀ m, backB bs x m ≤ m
  | 0 => Nat.le_refl 0
  | m + 1 => by
    rw [backB]
    split
    · omega
    · have := backB_le bs x m; omega
theorem backB_has (bs : List UInt8) (x : B3) : ∀ m, 0 < backB bs x m → bg bs (backB bs x m - 1) = x
  | 0, h0 => absurd h0 (by simp [backB])
  | m + 1, h0 => by
    rw [backB] at h0 ⊢
    split
    · rename_i he; exact he
    · rename_i he
      rw [if_neg he] at h0
      exact backB_has bs x m h0
theorem backB_none (bs : List UInt8) (x : B3) : ∀ m q, backB bs x m ≤ q → q < m → bg bs q ≠ x
  | 0, q, _, h2 => by omega
  | m + 1, q, h1, h2 => by
    rw [backB] at h1
    split at h1
    · omega
    · rename_i he
      by_cases hq : q = m
      · rw [hq]; exact he
      · exact backB_none bs x m q h1 (by omega)
/-- What the map holds when m places are laid. -/
def mapD (bs : List UInt8) : Nat → DataW Unit
  | 0 => .map []
  | m + 1 => (mapD bs m).put (klit (bg bs m)) (.lit (.int .i64 (m : Int)))
theorem mapD_is (bs : List UInt8) : ∀ m, IsMap (mapD bs m)
  | 0 => isMap_empty
  | m + 1 => (mapD_is bs m).put _ _
theorem klit_isKey (x : B3) : WideAt.IsKeyLit (klit x) := begLaw.key (klit_key x)
theorem mapD_look (bs : List UInt8) (x : B3) : ∀ m, has (mapD bs m) (klit x) = decide (0 < backB bs x m) ∧ ∀ z, (mapD bs m).atKey (klit x) z = if 0 < backB bs x m then .lit (.int .i64 ((backB bs x m - 1 : Nat) : Int)) else z
  | 0 => ⟨rfl, fun z => rfl⟩
  | m + 1 => by
    obtain ⟨h1, h2⟩ := mapD_look bs x m
    rw [mapD, backB]
    by_cases h : bg bs m = x
    · rw [if_pos h, ← h]
      refine ⟨?_, fun z => ?_⟩
      · rw [has_put_same (mapD_is bs m) (klit_isKey _)]; simp
      · rw [atKey_put_same (mapD_is bs m) (klit_isKey _)]; simp
    · have hne : klit x ≠ klit (bg bs m) := fun e => h (klit_inj e).symm
      rw [if_neg h]
      refine ⟨?_, fun z => ?_⟩
      · rw [has_put_other hne, h1]
      · rw [atKey_put_other hne, h2 z]
/-- How far ahead of a place the next one that begins so stands; 0: none does within the window. -/
def dB (bs : List UInt8) (p : Nat) : Nat := if backB bs (bg bs p) p = 0 ∨ 32768 < p - (backB bs (bg bs p) p - 1) then 0 else p - (backB bs (bg bs p) p - 1)
theorem dB_le (bs : List UInt8) (p : Nat) : dB bs p ≤ 32768 := by
  unfold dB
  split <;> omega
/-- The next candidate. -/
theorem dB_step {bs : List UInt8} {a e : Nat} (hea : e ≤ a) (he : bg bs (a - e) = bg bs a) :
    (dB bs (a - e) = 0 → candN bs a (min a 32768) = candN bs a (min e (min a 32768))) ∧
    (0 < dB bs (a - e) → e + dB bs (a - e) ≤ a ∧ bg bs (a - (e + dB bs (a - e))) = bg bs a ∧ candN bs a (e + dB bs (a - e)) = candN bs a e ++ [e + dB bs (a - e)] ∧
      (32768 < e + dB bs (a - e) → e ≤ 32768 → candN bs a (min a 32768) = candN bs a e)) := by
  obtain ⟨b, hb⟩ : ∃ b, backB bs (bg bs (a - e)) (a - e) = b := ⟨_, rfl⟩
  have hle := backB_le bs (bg bs (a - e)) (a - e)
  rw [hb] at hle
  have hno : ∀ q, b ≤ q → q < a - e → bg bs q ≠ bg bs a := fun q h1 h2 => by
    rw [← he]; exact backB_none bs _ _ q (by rw [hb]; exact h1) h2
  have skip : ∀ m k, e ≤ m → (∀ d, m < d → d ≤ m + k → d ≤ a ∧ b ≤ a - d) → candN bs a (m + k) = candN bs a m := by
    intro m k hm
    induction k with
    | zero => exact fun _ => rfl
    | succ k ih =>
      intro h
      have h1 := ih (fun d h2 h3 => h d h2 (by omega))
      rw [← Nat.add_assoc, candN_no, h1]
      rw [three_bg, decide_eq_false_iff_not]
      obtain ⟨h2, h3⟩ := h (m + k + 1) (by omega) (by omega)
      exact hno _ h3 (by omega)
  unfold dB
  rw [hb]
  refine ⟨fun h => ?_, fun h => ?_⟩
  · by_cases hem : e ≤ min a 32768
    · rw [Nat.min_eq_left hem]
      obtain ⟨k, hk⟩ : ∃ k, min a 32768 = e + k := ⟨min a 32768 - e, by omega⟩
      rw [hk]
      refine skip e k (Nat.le_refl e) fun d h1 h2 => ⟨by omega, ?_⟩
      split at h
      · rename_i hc
        rcases hc with hc | hc <;> omega
      · omega
    · rw [show min e (min a 32768) = min a 32768 by omega]
  · split at h
    · omega
    · rename_i hc
      rw [if_neg hc]
      have hb0 : 0 < b := by omega
      have hd : a - (e + (a - e - (b - 1))) = b - 1 := by omega
      have hbg : bg bs (b - 1) = bg bs a := by
        have := backB_has bs (bg bs (a - e)) (a - e) (by rw [hb]; exact hb0)
        rw [hb] at this
        rw [this, he]
      obtain ⟨k, hk⟩ : ∃ k, e + (a - e - (b - 1)) = e + k + 1 := ⟨a - e - b, by omega⟩
      have hsk : candN bs a (e + k) = candN bs a e := skip e k (Nat.le_refl e) fun d h1 h2 => ⟨by omega, by omega⟩
      refine ⟨by omega, by rw [hd]; exact hbg, ?_, fun h1 h2 => ?_⟩
      · rw [hk, candN_yes (by rw [three_bg, decide_eq_true_eq, ← hk, hd]; exact hbg), hsk]
      · obtain ⟨k2, hk2⟩ : ∃ k2, min a 32768 = e + k2 := ⟨min a 32768 - e, by omega⟩
        rw [hk2]
        exact skip e k2 (Nat.le_refl e) fun d h3 h4 => ⟨by omega, by omega⟩
end Go.Proofs.YtkikgidmioofaaaGreat
