/- The reader of layer 2 over any bytes, by its state: its place, and whether it isn't fine. -/
import Derived.Test.YtnccbnadfgilaaaKField
import Derived.Test.YtnccbnadfgilaaaMoves
import Derived.StillTailTactics
namespace Go.Proofs.Ytnccbnadfgilaaa
open Go.RowKit FieldP
attribute [local go_sem ↓] Go.wp_at_zero Go.wp_at_succ

/-- A reader's state, and what it reads. -/
structure RSt where
  p : Nat
  bad : Bool
/-- A number of k bytes. -/
def RSt.num (bs : List UInt8) (s : RSt) (k : Nat) : Nat × RSt :=
  if s.bad = true then (0, s) else if s.p + k ≤ bs.length then (val ((bs.drop s.p).take k), ⟨s.p + k, false⟩) else (0, ⟨s.p, true⟩)
/-- Some bytes. -/
def RSt.row (bs : List UInt8) (s : RSt) (n : Nat) : List UInt8 × RSt :=
  if s.bad = true then ([], s) else if s.p + n ≤ bs.length then ((bs.drop s.p).take n, ⟨s.p + n, false⟩) else ([], ⟨s.p, true⟩)
theorem num_le {bs : List UInt8} {s : RSt} {k : Nat} (h : s.p ≤ bs.length) : (s.num bs k).2.p ≤ bs.length := by
  unfold RSt.num
  split
  · exact h
  · split
    · assumption
    · exact h
theorem row_le {bs : List UInt8} {s : RSt} {k : Nat} (h : s.p ≤ bs.length) : (s.row bs k).2.p ≤ bs.length := by
  unfold RSt.row
  split
  · exact h
  · split
    · assumption
    · exact h
theorem num_lt {bs : List UInt8} {s : RSt} {k : Nat} (hk : k ≤ 4) : (s.num bs k).1 < 4294967296 := by
  unfold RSt.num
  split
  · omega
  · split
    · exact val_lt4 (by rw [List.length_take]; omega)
    · omega
/-- The reader at block g is in that state. -/
def RdS (w : World) (g : Nat) (A : Option Addr) (l c : Nat) (s : RSt) : Prop := Rd w g A l c (s.p : Int) s.bad
theorem RdS.lt {w : World} {g : Nat} {A : Option Addr} {l c : Nat} {s : RSt} (h : RdS w g A l c s) : g < w.heap.size := Rd.lt h

/-- A number that isn't there: the reader isn't fine any more. -/
theorem number_short (g : Nat) (A : Option Addr) (l c : Nat) (bs : List UInt8) (B : Nat) (p b : Int) (w : World) (h : Rd w g A l c p false) (hl : bs.length = l) (hm : l ≤ 1099511627776)
    (p0 : 0 ≤ p) (p1 : p ≤ l) (b0 : -9223372036854775808 ≤ b) (b1 : b ≤ 9223372036854775807) (hb : Bytes w B A bs) (hx : getN bs p (cnt b) = none) :
    Calls Try.prog 29 #[.pointer (some ⟨g, 0, none⟩), .int .i64 b] w fun e w' => e = .returned (.int .u32 0) ∧ Rd w' g A l c p true ∧ Only g w w' := by
  have H := Lib.hid h
  have HOK := Lib.hid (ok_any g A l c p false w h)
  have HGET := Lib.hid (fun n => get_any A l c bs B p b (w.drewN n) hl (by omega) (by omega) (by omega) b0 b1 (hb.drewN n))
  obtain ⟨c0, c1, c2, f1, f2⟩ := h.cells
  simp only [hx, orZero] at HGET
  clear h hx hl hb b0 b1
  go_enter Try.func29, Try.ntmps29
  go_wp2_with (go_at_call 31; refine HOK.out.mono ?_; rintro e w' ⟨rfl, rfl⟩)
  go_quiet ((go_at_call 42; exact quiet_left (HGET.out _)))
  have H1 := Lib.hid (H.out.drewN nq)
  have HO := Lib.hid (only_drewN (only_refl g w) nq)
  obtain ⟨c0, c1, c2, f1, f2⟩ := H1.out.cells
  generalize w.drewN nq = w1 at *
  go_wp2
  go_ret
  exact ⟨rfl, H1.out.setBad, only_set HO.out _ _⟩

/-- Number, whatever the reader's state. -/
theorem number_st (g : Nat) (A : Option Addr) (l c : Nat) (bs : List UInt8) (B : Nat) (s : RSt) (b : Int) (k : Nat) (w : World) (h : RdS w g A l c s) (hl : bs.length = l) (hm : l ≤ 1099511627776)
    (hp : s.p ≤ l) (b0 : -9223372036854775808 ≤ b) (b1 : b ≤ 9223372036854775807) (hk : cnt b = k) (hb : Bytes w B A bs) :
    Calls Try.prog 29 #[.pointer (some ⟨g, 0, none⟩), .int .i64 b] w fun e w' => e = .returned (.int .u32 ((s.num bs k).1 : Nat)) ∧ RdS w' g A l c (s.num bs k).2 ∧ Only g w w' := by
  subst hk
  obtain ⟨p, bad⟩ := s
  cases bad with
  | true => exact (number_bad g A l c p b w h).mono fun e w' ⟨he, hw⟩ => ⟨he, by subst hw; exact h, by subst hw; exact only_refl g w⟩
  | false =>
    by_cases hf : p + cnt b ≤ bs.length
    · have hx := getN_some (bs := bs) (a := p) (k := cnt b) hf
      refine (number_any g A l c bs B p b _ w h hl hm (by omega) (by have : p ≤ l := hp; omega) b0 b1 hb hx).mono fun e w' ⟨he, hr, ho⟩ => ?_
      have hn : RSt.num bs ⟨p, false⟩ (cnt b) = (val ((bs.drop p).take (cnt b)), ⟨p + cnt b, false⟩) := by simp [RSt.num, hf]
      rw [hn]
      exact ⟨he, hr, ho⟩
    · have hx : getN bs p (cnt b) = none := by unfold getN; rw [if_neg (by omega)]
      refine (number_short g A l c bs B p b w h hl hm (by omega) (by have : p ≤ l := hp; omega) b0 b1 hb hx).mono fun e w' ⟨he, hr, ho⟩ => ?_
      have hn : RSt.num bs ⟨p, false⟩ (cnt b) = (0, ⟨p, true⟩) := by simp [RSt.num, hf]
      rw [hn]
      exact ⟨he, hr, ho⟩

theorem byteSize : (Try.prog.info? 5).map (·.size) = some 1 := by kernel_rfl
theorem byteInfo : (Try.prog.info? 5).map (fun i => (i.zero, i.size, i.bytes)) = some (some (.int .u8 0), 1, 1) := by kernel_rfl
theorem make_bytes (n : Nat) (hn : n ≤ 281474976710656) (W : World) :
    (Instr.makeSlice 22 (.int .i64 (n : Int)) (.int .i64 (n : Int))).run Try.prog W = .ok (.slice (some ⟨W.heap.size, 0, none⟩) n n) (W.alloc (.cells (madeCells #[.int .u8 0] n) 5)) := by
  obtain ⟨i0, hi, hz0, hz1, hz2⟩ := info_parts byteInfo
  have h := run_make (P := Try.prog) W 22 5 i0 (.int .u8 0) Try.underlying22 hi hz0 .i64 .i64 n n (by omega) (Int.le_refl _) (by rw [hz2]; omega) (by omega)
  simp only [Int.toNat_natCast, hz1, Nat.mul_one] at h
  exact h
theorem own_made (w : World) (base n : Nat) (hb : base ≤ w.heap.size) (hm : n ≤ maxLen) : OwnB (w.alloc (.cells (madeCells #[Value.int .u8 0] n) 5)) base 5 (.slice (some ⟨w.heap.size, 0, none⟩) n n) n (List.replicate n 0) := by
  refine own_of_row (cur := byteCells (List.replicate n 0)) ?_ hb (Nat.le_refl _) hm (by simp [byteCells]) (List.take_of_length_le (by simp [byteCells]))
  have e : madeCells #[Value.int .u8 0] n = (byteCells (List.replicate n 0)).toArray := by
    apply Array.toList_inj.1
    rw [toList_madeCells_one]
    simp [byteCells]
  rw [e]
  exact heap_alloc_new w _

theorem only_mod {g : Nat} {S : Nat → Prop} {w w1 w2 : World} (h : Only g w w1) (hm : Mod S w1 w2) (hS : ∀ k, S k → w.heap.size ≤ k) : Only g w w2 :=
  ⟨hm.os.trans h.os, hm.tape.trans h.tape, hm.output.trans h.output, Nat.le_trans h.size hm.size, fun k hk hne => (hm.block k (Nat.lt_of_lt_of_le hk h.size) (fun hs => by have := hS k hs; omega)).trans (h.block k hk hne)⟩
theorem only_drew {g : Nat} {w w' : World} (h : Only g w w') : Only g w w'.drew := ⟨h.os, h.tape, h.output, h.size, h.block⟩
theorem splice_all {α : Type} {L X : List α} (h : L.length = X.length) : splice L 0 X = X := by
  unfold splice
  rw [List.drop_of_length_le (by omega)]
  simp

/-- A read beyond what is left: the reader isn't fine any more. -/
theorem bytes_short (g : Nat) (A : Option Addr) (l c : Nat) (p n : Int) (w : World) (h : Rd w g A l c p false) (hm : l ≤ 1099511627776) (p0 : 0 ≤ p) (p1 : p ≤ l) (hn : (l : Int) - p < n) :
    Calls Try.prog 51 #[.pointer (some ⟨g, 0, none⟩), .int .i64 n] w fun e w' => e = .returned (.slice none 0 0) ∧ Rd w' g A l c p true ∧ Only g w w' := by
  have H := Lib.hid h
  have HOK := Lib.hid (ok_any g A l c p false w h)
  have HLF := Lib.hid (left_any g A l c p false w h (by omega) p0 p1)
  have hn0 : decide (n < 0) = false := by simp; omega
  clear h
  go_enter Try.func51, Try.ntmps51
  go_wp2_with (first | (go_at_call 31; refine HOK.out.mono ?_; rintro e w' ⟨rfl, rfl⟩) | (go_at_call 45; refine HLF.out.mono ?_; rintro e w' ⟨rfl, nq, rfl⟩; obtain ⟨c0, c1, c2, f1, f2⟩ := (H.out.drewN nq).cells))
  go_ret
  exact ⟨rfl, (H.out.drewN nq).setBad, only_set (only_drewN (only_refl g w) nq) _ _⟩

set_option maxRecDepth 100000 in
set_option maxHeartbeats 1000000 in
/-- Bytes that are there are read, into memory of their own. -/
theorem bytes_any (g : Nat) (A : Option Addr) (l c : Nat) (bs : List UInt8) (B : Nat) (p n : Nat) (w : World) (h : Rd w g A l c (p : Int) false) (hl : bs.length = l) (hm : l ≤ 1099511627776) (hlc : l ≤ c) (hp : p + n ≤ l) (hb : Bytes w B A bs) (hB : B ≤ w.heap.size) :
    Calls Try.prog 51 #[.pointer (some ⟨g, 0, none⟩), .int .i64 (n : Int)] w fun e w' => ∃ A' k, e = .returned (.slice A' n k) ∧ OwnB w' w.heap.size 5 (.slice A' n k) n ((bs.drop p).take n) ∧ Rd w' g A l c ((p : Int) + n) false ∧ Only g w w' := by
  have H := Lib.hid h
  have HOK := Lib.hid (ok_any g A l c p false w h)
  have HLF := Lib.hid (left_any g A l c p false w h (by omega) (by omega) (by omega))
  have hn0 : decide ((n : Int) < 0) = false := by simp
  have hn1 : decide ((l : Int) - (p : Int) < (n : Int)) = false := by simp; omega
  have hgl := h.lt
  have hmk := make_bytes n (by omega)
  have HB : Hid (Bytes w B A bs) := hb
  have HL := Lib.hid hl
  clear h hb hl
  go_enter Try.func51, Try.ntmps51
  go_wp2_with (first | (go_at_call 31; refine HOK.out.mono ?_; rintro e w' ⟨rfl, rfl⟩) | (go_at_call 45; refine HLF.out.mono ?_; rintro e w' ⟨rfl, nq, rfl⟩))
  have HM := Lib.hid (own_made (w.drewN nq) w.heap.size n (Nat.le_refl _) (by unfold maxLen; omega))
  have H1 : Hid (Rd ((w.drewN nq).alloc (.cells (madeCells #[.int .u8 0] n) 5)) g A l c (p : Int) false) := (H.out.drewN nq).below ((Below.refl _ _).alloc (Nat.le_refl _) _) hgl
  have HBS := Lib.hid ((HB.out.drewN nq).alloc hB (.cells (madeCells #[.int .u8 0] n) 5))
  have HO1 := Lib.hid (only_alloc (only_drewN (only_refl g w) nq) (.cells (madeCells #[.int .u8 0] n) 5))
  have HZ : Hid (((w.drewN nq).alloc (.cells (madeCells #[.int .u8 0] n) 5)).heap.size = w.heap.size + 1) := by show _ = _; simp
  generalize hw1 : (w.drewN nq).alloc (.cells (madeCells #[.int .u8 0] n) 5) = w1 at *
  obtain ⟨c0, c1, c2, f1, f2⟩ := H1.out.cells
  clear hmk hw1 H HOK HLF
  have HN : Hid ((byteCells ((bs.drop p).take n)).length = Nat.min (l - p) n) := by
    show _ = min (l - p) n
    rw [byteCells_length, List.length_take, List.length_drop, HL.out]
    omega
  have HTL : Hid (byteCells ((bs.drop p).take n) = (byteCells (bs.drop p)).take (byteCells ((bs.drop p).take n)).length) := by
    show _ = _
    rw [byteCells_length, List.length_take, List.length_drop, HL.out, show min n (l - p) = n by omega]
    unfold byteCells
    rw [← List.map_take]
  have HSP : Hid (splice (byteCells (List.replicate n 0)) 0 (byteCells ((bs.drop p).take n)) = byteCells ((bs.drop p).take n)) :=
    splice_all (by rw [HN.out, byteCells_length, List.length_replicate]; show n = min (l - p) n; omega)
  have HFIT : Hid (0 + (byteCells ((bs.drop p).take n)).length ≤ n) := by show _ ≤ _; rw [HN.out]; show 0 + min (l - p) n ≤ n; omega
  by_cases hl0 : l = 0
  · subst hl0
    obtain rfl : p = 0 := by omega
    obtain rfl : n = 0 := by omega
    have hc0 : 0 ≤ c := by omega
    cases A with
    | none =>
      go_still_tail 10, (by kernel_rfl)
      repeat still_step
      change wpList _ _ _ _ _ w1.drew
      refine wpList_copy_into w1.drew rfl (.tmp 22) (.tmp 31) 22 22 rfl HM.out.drew Try.underlying22 byteSize _ _ _ _ _ _ rfl rfl 0 (byteCells ((bs.drop 0).take 0)) rfl (fun _ => ⟨w.heap.size, rfl, rfl⟩) B [] (Cells.nil _ _ _) rfl (Nat.le_refl _) (byteCells_one _) ?_
      intro w2 hown hmod
      rw [HSP.out] at hown
      have HO2 := Lib.hid hown
      have HM2 := Lib.hid hmod
      clear hown hmod
      have hne : ¬ ownS (Value.slice (some ⟨(w.drewN nq).heap.size, 0, none⟩) 0 0) g := by simp [ownS, Value.ownBlock]; omega
      have HR2 : Hid (Rd w2 g none 0 c ((0 : Nat) : Int) false) := HM2.out.keep (w := w1.drew) H1.out hne
      have HNE := Lib.hid hne
      have HON := Lib.hid (only_mod (only_drew HO1.out) HM2.out (fun k hk => by simp [ownS, Value.ownBlock] at hk; omega))
      clear c0 c1 c2 f1 f2 hne
      obtain ⟨c0, c1, c2, f1, f2⟩ := HR2.out.cells
      go_wp2
      go_ret
      refine ⟨_, _, rfl, ?_, HR2.out.setAt _, only_set HON.out _ _⟩
      refine own_keep HO2.out ((Mod.refl (oneB g) w2).set ⟨g, 1, none⟩ _ (.inl rfl)) (fun k hk hg => ?_)
      unfold oneB at hg
      subst hg
      exact HNE.out hk
    | some ad =>
      go_still_tail 10, (by kernel_rfl)
      repeat still_step
      change wpList _ _ _ _ _ w1.drew
      refine wpList_copy_into w1.drew rfl (.tmp 22) (.tmp 31) 22 22 rfl HM.out.drew Try.underlying22 byteSize _ _ _ _ _ _ rfl rfl 0 (byteCells ((bs.drop 0).take 0)) rfl (fun _ => ⟨w.heap.size, rfl, rfl⟩) B [] (Cells.nil _ _ _) rfl (Nat.le_refl _) (byteCells_one _) ?_
      intro w2 hown hmod
      rw [HSP.out] at hown
      have HO2 := Lib.hid hown
      have HM2 := Lib.hid hmod
      clear hown hmod
      have hne : ¬ ownS (Value.slice (some ⟨(w.drewN nq).heap.size, 0, none⟩) 0 0) g := by simp [ownS, Value.ownBlock]; omega
      have HR2 : Hid (Rd w2 g (some ad) 0 c ((0 : Nat) : Int) false) := HM2.out.keep (w := w1.drew) H1.out hne
      have HNE := Lib.hid hne
      have HON := Lib.hid (only_mod (only_drew HO1.out) HM2.out (fun k hk => by simp [ownS, Value.ownBlock] at hk; omega))
      clear c0 c1 c2 f1 f2 hne
      obtain ⟨c0, c1, c2, f1, f2⟩ := HR2.out.cells
      go_wp2
      go_ret
      refine ⟨_, _, rfl, ?_, HR2.out.setAt _, only_set HON.out _ _⟩
      refine own_keep HO2.out ((Mod.refl (oneB g) w2).set ⟨g, 1, none⟩ _ (.inl rfl)) (fun k hk hg => ?_)
      unfold oneB at hg
      subst hg
      exact HNE.out hk
  · obtain ⟨b, o, rfl, hbB, hcell⟩ := HBS.out (by rw [byteCells_length, HL.out]; omega)
    have HCELL := Lib.hid hcell
    clear hcell
    have hpl : p ≤ l := by omega
    have hpc : p ≤ c := by omega
    go_still_tail 10, (by kernel_rfl)
    repeat still_step
    change wpList _ _ _ _ _ w1.drew
    refine wpList_copy_into w1.drew rfl (.tmp 22) (.tmp 31) 22 22 rfl HM.out.drew Try.underlying22 byteSize _ _ _ _ _ _ rfl rfl 0 (byteCells ((bs.drop p).take n)) HN.out (fun _ => ⟨w.heap.size, rfl, rfl⟩) w1.heap.size (byteCells (bs.drop p)) ?_ HTL.out HFIT.out (byteCells_one _) ?_
    · by_cases hcq : c = p
      · rw [if_pos hcq, List.drop_of_length_le (by rw [HL.out]; omega)]
        exact Cells.nil _ _ _
      · rw [if_neg hcq]
        refine fun _ => ⟨b, o + p, rfl, by have := HZ.out; omega, fun j u hu => ?_⟩
        have := HCELL.out (p + j) u (by rw [← hu]; simp [byteCells, List.getElem?_drop])
        rw [← Nat.add_assoc] at this
        exact this
    intro w2 hown hmod
    generalize (if c = p then some (⟨b, o, none⟩ : Addr) else some ⟨b, o + p, none⟩) = PA
    rw [HSP.out] at hown
    have HO2 := Lib.hid hown
    have HM2 := Lib.hid hmod
    clear hown hmod
    have hne : ¬ ownS (Value.slice (some ⟨(w.drewN nq).heap.size, 0, none⟩) n n) g := by simp [ownS, Value.ownBlock]; omega
    have HR2 : Hid (Rd w2 g (some ⟨b, o, none⟩) l c (p : Int) false) := HM2.out.keep (w := w1.drew) H1.out hne
    have HNE := Lib.hid hne
    have HON := Lib.hid (only_mod (only_drew HO1.out) HM2.out (fun k hk => by simp [ownS, Value.ownBlock] at hk; omega))
    clear c0 c1 c2 f1 f2 hne
    obtain ⟨c0, c1, c2, f1, f2⟩ := HR2.out.cells
    go_wp2
    all_goals
      go_ret
      refine ⟨_, _, rfl, ?_, HR2.out.setAt _, only_set HON.out _ _⟩
      refine own_keep HO2.out ((Mod.refl (oneB g) w2).set ⟨g, 1, none⟩ _ (.inl rfl)) (fun k hk hg => ?_)
      unfold oneB at hg
      subst hg
      exact HNE.out hk

/-- Bytes, whatever the reader's state. -/
theorem bytes_st (g : Nat) (A : Option Addr) (l c : Nat) (bs : List UInt8) (B : Nat) (s : RSt) (n : Nat) (w : World) (h : RdS w g A l c s) (hl : bs.length = l) (hm : l ≤ 1099511627776) (hlc : l ≤ c)
    (hp : s.p ≤ l) (hb : Bytes w B A bs) (hB : B ≤ w.heap.size) :
    Calls Try.prog 51 #[.pointer (some ⟨g, 0, none⟩), .int .i64 (n : Int)] w fun e w' => ∃ A' m k, e = .returned (.slice A' m k) ∧ OwnB w' w.heap.size 5 (.slice A' m k) m (s.row bs n).1 ∧ RdS w' g A l c (s.row bs n).2 ∧ Only g w w' := by
  obtain ⟨p, bad⟩ := s
  cases bad with
  | true => exact (bytes_bad g A l c p n w h).mono fun e w' ⟨he, hw⟩ => ⟨none, 0, 0, he, by subst hw; exact World.ownsRow_nil _ _ _ _, by subst hw; exact h, by subst hw; exact only_refl g w⟩
  | false =>
    by_cases hf : p + n ≤ bs.length
    · refine (bytes_any g A l c bs B p n w h hl hm hlc (by omega) hb hB).mono fun e w' ⟨A', k, he, ho, hr, hon⟩ => ?_
      have hn : RSt.row bs ⟨p, false⟩ n = ((bs.drop p).take n, ⟨p + n, false⟩) := by simp [RSt.row, hf]
      rw [hn]
      exact ⟨A', n, k, he, ho, hr, hon⟩
    · refine (bytes_short g A l c p n w h hm (by omega) (by have : p ≤ l := hp; omega) (by omega)).mono fun e w' ⟨he, hr, hon⟩ => ?_
      have hn : RSt.row bs ⟨p, false⟩ n = ([], ⟨p, true⟩) := by simp [RSt.row, hf]
      rw [hn]
      exact ⟨none, 0, 0, he, World.ownsRow_nil _ _ _ _, hr, hon⟩

theorem at_any (g : Nat) (A : Option Addr) (l c : Nat) (p : Int) (bad : Bool) (w : World) (h : Rd w g A l c p bad) :
    Calls Try.prog 30 #[.pointer (some ⟨g, 0, none⟩)] w fun e w' => e = .returned (.int .i64 p) ∧ w = w' := by
  obtain ⟨c0, c1, c2, f1, f2⟩ := h.cells
  clear h
  go_enter Try.func30, Try.ntmps30
  go_wp2
  go_ret
  exact ⟨rfl, rfl⟩
end Go.Proofs.Ytnccbnadfgilaaa
