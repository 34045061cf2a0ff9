/- Layer 4, plainly: what a crash leaves of each sector. -/
import Derived.Test.YtjedhemjojcekaaDiskCr
namespace Go.Proofs.Ytjedhemjojcekaa
open Go.RowKit

theorem secAt_get (p : Nat) (l : List UInt8) (j : Nat) : (secAt p l)[j]? = if j < 512 then l[512 * p + j]? else none := by
  unfold secAt
  rw [List.getElem?_take]
  split
  · rw [List.getElem?_drop]
  · rfl
theorem splice_get {α : Type} (L : List α) (o : Nat) (cs : List α) (h : o + cs.length ≤ L.length) (i : Nat) : (splice L o cs)[i]? = if i < o then L[i]? else if i < o + cs.length then cs[i - o]? else L[i]? := by
  unfold splice
  have e : (L.take o).length = o := by rw [List.length_take]; omega
  rw [List.getElem?_append, e]
  split
  · rw [List.getElem?_take_of_lt (by assumption)]
  · rw [List.getElem?_append]
    by_cases h2 : i < o + cs.length
    · rw [if_pos (by omega), if_pos h2]
    · rw [if_neg (by omega), if_neg h2, List.getElem?_drop]
      congr 1
      omega
theorem secAt_splice (X bs : List UInt8) (i p : Nat) (hb : bs.length = 512) (hp : 512 * p + 512 ≤ X.length) : secAt i (splice X (512 * p) bs) = if i = p then bs else secAt i X := by
  apply List.ext_getElem?
  intro j
  rw [secAt_get]
  by_cases hj : j < 512
  · rw [if_pos hj, splice_get _ _ _ (by omega)]
    by_cases h : i = p
    · subst h
      rw [if_neg (by omega), if_pos (by omega), if_pos rfl]
      congr 1
      omega
    · rw [if_neg h, secAt_get, if_pos hj]
      by_cases h2 : i < p
      · rw [if_pos (by omega)]
      · rw [if_neg (by omega), if_neg (by omega)]
  · rw [if_neg hj]
    split
    · rw [List.getElem?_eq_none (by omega)]
    · rw [secAt_get, if_neg hj]
theorem secs_get (now : List UInt8) (f n j : Nat) (h : j < n) : (secs now f n)[j]? = some (f + j, secAt (f + j) now) := by simp [secs, h]
/-- Sector by sector: what is kept is as it was written, all else as it was. -/
theorem layN_sec (X now : List UInt8) (f n : Nat) (keep : List Bool) (hX : X.length = now.length) (hn : 512 * (f + n) ≤ now.length) (j : Nat) (hj : j ≤ n) (i : Nat) :
    secAt i (layN X (secs now f n) keep j) = if f ≤ i ∧ i < f + j ∧ keep[i - f]? = some true then secAt i now else secAt i X := by
  have hwt : ∀ x ∈ secs now f n, 512 * x.1 + 512 ≤ X.length ∧ x.2.length = 512 := fun x hx => by
    simp only [secs, List.mem_map, List.mem_range] at hx
    obtain ⟨k, hk, rfl⟩ := hx
    exact ⟨by show 512 * (f + k) + 512 ≤ _; omega, secAt_length (by omega)⟩
  induction j with
  | zero => rw [if_neg (by omega)]; rfl
  | succ j ih =>
    have ih := ih (by omega)
    by_cases hk : keep[j]? = some true
    · rw [layN_yes _ _ _ _ _ (secs_get now f n j (by omega)) hk, secAt_splice _ _ _ _ (secAt_length (by omega)) (by rw [layN_length _ _ _ hwt]; omega)]
      show (if i = f + j then secAt (f + j) now else _) = _
      by_cases h : i = f + j
      · subst h
        rw [if_pos rfl, if_pos ⟨by omega, by omega, by rw [show f + j - f = j by omega]; exact hk⟩]
      · rw [if_neg h, ih]
        by_cases h2 : f ≤ i ∧ i < f + j ∧ keep[i - f]? = some true
        · rw [if_pos h2, if_pos ⟨h2.1, by omega, h2.2.2⟩]
        · rw [if_neg h2, if_neg (fun h3 => h2 ⟨h3.1, by omega, h3.2.2⟩)]
    · rw [layN_no _ _ _ _ hk, ih]
      by_cases h2 : f ≤ i ∧ i < f + j ∧ keep[i - f]? = some true
      · rw [if_pos h2, if_pos ⟨h2.1, by omega, h2.2.2⟩]
      · rw [if_neg h2, if_neg (fun h3 => h2 ⟨h3.1, by
          have h4 := h3.2.1
          by_cases h5 : i = f + j
          · exfalso
            subst h5
            rw [show f + j - f = j by omega] at h3
            exact hk h3.2.2
          · omega, h3.2.2⟩)]

theorem splice_whole {α : Type} (L M : List α) (h : M.length = L.length) : splice L 0 M = M := by
  unfold splice
  rw [List.drop_of_length_le (by omega)]
  simp
theorem base_whole (now safe : List UInt8) (fill : Nat) (h : safe.length = now.length) : baseNow now safe fill = safe := by
  unfold baseNow
  rw [show now.length / 512 - safe.length / 512 = 0 by rw [h]; omega, show spl (safe.length / 512) 0 fill = [] from rfl, splice_nil, splice_whole _ _ h]
theorem readV_all (now : List UInt8) (n : Nat) (h : now.length = n) : readV now 0 n = now := by
  unfold readV
  rw [List.drop_zero, List.take_of_length_le (by omega), h, Nat.sub_self]
  simp
theorem write_first (bs : List UInt8) (n : Nat) (h : bs.length = n) (hm : n % 512 = 0) (h0 : 0 < n) : writeNow [] 0 bs = bs := by
  have e : 512 * needV 0 0 bs.length = n := by
    unfold needV
    rw [if_neg (by omega)]
    rw [Nat.max_eq_right (by omega)]
    omega
  unfold writeNow
  rw [show ([] : List UInt8).length = 0 from rfl, e]
  exact splice_whole _ _ (by simp [h])
/-- A write within the size. -/
theorem write_within (now bs : List UInt8) (p : Nat) (hm : now.length % 512 = 0) (h0 : 0 < bs.length) (h : p + bs.length ≤ now.length) : (writeNow now p bs).length = now.length := by
  rw [writeNow_length _ _ _ hm h0]
  unfold needV
  rw [if_neg (by omega), Nat.max_eq_left (by omega)]
  omega
/-- What a crash leaves of a sector, where all was safe before a write. -/
theorem crash_sec (old bs : List UInt8) (p fill : Nat) (keep : List Bool) (hm : old.length % 512 = 0) (h0 : 0 < bs.length) (h : p + bs.length ≤ old.length) (i : Nat) :
    secAt i (crashNow (writeNow old p bs) old (writeWt old p bs) keep fill) =
      if p / 512 ≤ i ∧ i < (p + bs.length - 1) / 512 + 1 ∧ keep[i - p / 512]? = some true then secAt i (writeNow old p bs) else secAt i old := by
  have hl := write_within old bs p hm h0 h
  unfold crashNow
  rw [base_whole _ _ _ hl.symm]
  unfold writeWt
  rw [secs_length, layN_sec _ _ _ _ _ hl.symm (by rw [hl]; omega) _ (Nat.le_refl _)]
  rw [show p / 512 + ((p + bs.length - 1) / 512 + 1 - p / 512) = (p + bs.length - 1) / 512 + 1 by omega]
/-- .. where nothing was written. -/
theorem crash_none (old : List UInt8) (keep : List Bool) (fill : Nat) : crashNow old old [] keep fill = old := by
  unfold crashNow
  rw [base_whole _ _ _ rfl]
  rfl

theorem kept_new (w : World) (S : Nat → Prop) (T : TypeId) (bs : List UInt8) (C : Array Value) (hC : C.toList = byteCells bs) (hS : ¬ S w.heap.size) : Kept (w.alloc (.cells C T)) S (some ⟨w.heap.size, 0, none⟩) (byteCells bs) := by
  refine ⟨w.heap.size, 0, C, T, (0, 0), rfl, hS, heap_alloc_new w _, fun j u hj => ?_⟩
  rw [Nat.zero_add, ← hj, ← hC]
  simp

set_option maxRecDepth 100000 in
set_option maxHeartbeats 1000000 in
theorem lives4_any (w : World) : Calls Try.prog 5 #[] w fun e w' => e = .returned (.bool true) ∧ Below w.heap.size w w' := by
  have HD0 := Lib.hid (DkS.new w w.heap.size)
  go_enter Try.func5, Try.ntmps5
  go_wp2_with fail
  have hk : Kept ((w.alloc (.cells #[.slice none 0 0, .slice none 0 0, .slice none 0 0] 28)).alloc (.cells #[.int .u8 1] 5)) (oneB w.heap.size) (some ⟨w.heap.size + 1, 0, none⟩) (byteCells [1]) := by
    have := kept_new (w.alloc (.cells #[.slice none 0 0, .slice none 0 0, .slice none 0 0] 28)) (oneB w.heap.size) 5 [1] #[.int .u8 1] rfl (fun h => by have : (w.alloc (.cells #[.slice none 0 0, .slice none 0 0, .slice none 0 0] 28)).heap.size = w.heap.size := h; rw [World.size_alloc] at this; omega)
    rwa [World.size_alloc] at this
  have HD1 := HD0.out.keep (T := noB) ((Mod.refl noB _).alloc (.cells #[.int .u8 1] 5)) (fun _ h => h.elim)
  have HW := write_any w.heap.size w.heap.size (oneB w.heap.size) [] [] [] (some ⟨w.heap.size + 1, 0, none⟩) 1 1 600 [1] _ HD1 Good.new (by simp; omega) (by simp) rfl (by omega) hk (by decide)
  have HBL := Lib.hid ((((Below.refl w.heap.size w).alloc (Nat.le_refl _) (.cells #[.slice none 0 0, .slice none 0 0, .slice none 0 0] 28))).alloc (by simp) (.cells #[.int .u8 1] 5))
  generalize ((w.alloc (.cells #[.slice none 0 0, .slice none 0 0, .slice none 0 0] 28)).alloc (.cells #[.int .u8 1] 5)) = w1 at *
  clear hk HD1 HD0
  refine HW.mono ?_
  rintro e w2 ⟨rfl, S', hd, hm, hp⟩
  have hlen : (writeNow [] 600 [1]).length = 1024 := writeNow_length _ _ _ rfl (by simp)
  have HBE := Lib.hid (hm.below HBL.out HBL.out.size (fun k hk => by rw [show k = w.heap.size from hk]; exact Nat.le_refl _))
  have HSZ := Lib.hid (dsize_any w.heap.size w.heap.size S' _ _ _ w2 hd (by rw [hlen]; omega))
  have HWA := Lib.hid (dwaiting_any w.heap.size w.heap.size S' _ _ _ w2 hd)
  rw [hlen] at HSZ
  rw [show (([] : List (Nat × List UInt8)) ++ writeWt [] 600 [1]).length = 1 from rfl] at HWA
  clear hd hm hp HW hlen
  go_wp2_with (first
    | (go_at_call 9; refine HSZ.out.mono ?_; rintro e w' ⟨rfl, rfl⟩)
    | (go_at_call 10; refine HWA.out.mono ?_; rintro e w' ⟨rfl, rfl⟩))
  go_ret
  exact ⟨rfl, HBE.out⟩
end Go.Proofs.Ytjedhemjojcekaa
