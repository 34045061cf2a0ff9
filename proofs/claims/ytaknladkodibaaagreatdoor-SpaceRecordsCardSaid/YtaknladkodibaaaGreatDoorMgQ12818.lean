/- The reader of layer 2 over any bytes, by its state: its place, and whether it isn't fine. -/
import Derived.Test.YtaknladkodibaaaGreatDoorMgQ12817
import Derived.Test.YtaknladkodibaaaGreatDoorMgQ12808
import Derived.StillTailTactics
namespace Go.Proofs.YtaknladkodibaaaGreatDoor
open Go.RowKit FieldP
attribute [local go_sem ↓] Go.wp_at_zero Go.wp_at_succ

/-- A reader's state, and what it reads. -/
structure RSt where
  p : Nat
  bad : Bool
/-- A number of k bytes. -/
def RSt.num (bs : List UInt8) (s : RSt) (k : Nat) : Nat × RSt :=
  if s.bad = true then (0, s) else if s.p + k ≤ bs.length then (val ((bs.drop s.p).take k), ⟨s.p + k, false⟩) else (0, ⟨s.p, true⟩)
/-- Some bytes. -/
def RSt.row (bs : List UInt8) (s : RSt) (n : Nat) : List UInt8 × RSt :=
  if s.bad = true then ([], s) else if s.p + n ≤ bs.length then ((bs.drop s.p).take n, ⟨s.p + n, false⟩) else ([], ⟨s.p, true⟩)
theorem num_le {bs : List UInt8} {s : RSt} {k : Nat} (h : s.p ≤ bs.length) : (s.num bs k).2.p ≤ bs.length := by
  unfold RSt.num
  split
  · exact h
  · split
    · assumption
    · exact h
theorem num_lt {bs : List UInt8} {s : RSt} {k : Nat} (hk : k ≤ 4) : (s.num bs k).1 < 4294967296 := by
  unfold RSt.num
  split
  · omega
  · split
    · exact val_lt4 (by rw [List.length_take]; omega)
    · omega
/-- The reader at block g is in that state. -/
def RdK (w : World) (g : Nat) (A : Option Addr) (l c : Nat) (s : RSt) : Prop := Rd w g A l c (s.p : Int) s.bad
theorem RdK.lt {w : World} {g : Nat} {A : Option Addr} {l c : Nat} {s : RSt} (h : RdK w g A l c s) : g < w.heap.size := Rd.lt h

/-- A number that isn't there: the reader isn't fine any more. -/
theorem number_short (g : Nat) (A : Option Addr) (l c : Nat) (bs : List UInt8) (B : Nat) (p b : Int) (w : World) (h : Rd w g A l c p false) (hl : bs.length = l) (hm : l ≤ 1099511627776)
    (p0 : 0 ≤ p) (p1 : p ≤ l) (b0 : -9223372036854775808 ≤ b) (b1 : b ≤ 9223372036854775807) (hb : Bytes w B A bs) (hx : getN bs p (cnt b) = none) :
    Calls Tryz.prog 88 #[.pointer (some ⟨g, 0, none⟩), .int .i64 b] w fun e w' => e = .returned (.int .u32 0) ∧ Rd w' g A l c p true ∧ Only g w w' := by
  have H := Lib.hid h
  have HOK := Lib.hid (ok_any g A l c p false w h)
  have HGET := Lib.hid (fun n => get_any A l c bs B p b (w.drewN n) hl (by omega) (by omega) (by omega) b0 b1 (hb.drewN n))
  obtain ⟨c0, c1, c2, f1, f2⟩ := h.cells
  simp only [hx, orZero] at HGET
  clear h hx hl hb b0 b1
  go_enter Tryz.func88, Tryz.ntmps88
  go_wp2_with (go_at_call 128; refine HOK.out.mono ?_; rintro e w' ⟨rfl, rfl⟩)
  go_quiet ((go_at_call 131; exact quiet_left (HGET.out _)))
  have H1 := Lib.hid (H.out.drewN nq)
  have HO := Lib.hid (only_drewN (only_refl g w) nq)
  obtain ⟨c0, c1, c2, f1, f2⟩ := H1.out.cells
  generalize w.drewN nq = w1 at *
  go_wp2
  go_ret
  exact ⟨rfl, H1.out.setBad, only_set HO.out _ _⟩

/-- Number, whatever the reader's state. -/
theorem number_st (g : Nat) (A : Option Addr) (l c : Nat) (bs : List UInt8) (B : Nat) (s : RSt) (b : Int) (k : Nat) (w : World) (h : RdK w g A l c s) (hl : bs.length = l) (hm : l ≤ 1099511627776)
    (hp : s.p ≤ l) (b0 : -9223372036854775808 ≤ b) (b1 : b ≤ 9223372036854775807) (hk : cnt b = k) (hb : Bytes w B A bs) :
    Calls Tryz.prog 88 #[.pointer (some ⟨g, 0, none⟩), .int .i64 b] w fun e w' => e = .returned (.int .u32 ((s.num bs k).1 : Nat)) ∧ RdK w' g A l c (s.num bs k).2 ∧ Only g w w' := by
  subst hk
  obtain ⟨p, bad⟩ := s
  cases bad with
  | true => exact (number_bad g A l c p b w h).mono fun e w' ⟨he, hw⟩ => ⟨he, by subst hw; exact h, by subst hw; exact only_refl g w⟩
  | false =>
    by_cases hf : p + cnt b ≤ bs.length
    · have hx := getN_some (bs := bs) (a := p) (k := cnt b) hf
      refine (number_any g A l c bs B p b _ w h hl hm (by omega) (by have : p ≤ l := hp; omega) b0 b1 hb hx).mono fun e w' ⟨he, hr, ho⟩ => ?_
      have hn : RSt.num bs ⟨p, false⟩ (cnt b) = (val ((bs.drop p).take (cnt b)), ⟨p + cnt b, false⟩) := by simp [RSt.num, hf]
      rw [hn]
      exact ⟨he, hr, ho⟩
    · have hx : getN bs p (cnt b) = none := by unfold getN; rw [if_neg (by omega)]
      refine (number_short g A l c bs B p b w h hl hm (by omega) (by have : p ≤ l := hp; omega) b0 b1 hb hx).mono fun e w' ⟨he, hr, ho⟩ => ?_
      have hn : RSt.num bs ⟨p, false⟩ (cnt b) = (0, ⟨p, true⟩) := by simp [RSt.num, hf]
      rw [hn]
      exact ⟨he, hr, ho⟩

theorem byteSize : (Tryz.prog.info? 5).map (·.size) = some 1 := by kernel_rfl
theorem byteInfo : (Tryz.prog.info? 5).map (fun i => (i.zero, i.size, i.bytes)) = some (some (.int .u8 0), 1, 1) := by kernel_rfl
theorem make_bytes (n : Nat) (hn : n ≤ 281474976710656) (W : World) :
    (Instr.makeSlice 25 (.int .i64 (n : Int)) (.int .i64 (n : Int))).run Tryz.prog W = .ok (.slice (some ⟨W.heap.size, 0, none⟩) n n) (W.alloc (.cells (madeCells #[.int .u8 0] n) 5)) := by
  obtain ⟨i0, hi, hz0, hz1, hz2⟩ := info_parts byteInfo
  have h := run_make (P := Tryz.prog) W 25 5 i0 (.int .u8 0) Tryz.underlying25 hi hz0 .i64 .i64 n n (by omega) (Int.le_refl _) (by rw [hz2]; omega) (by omega)
  simp only [Int.toNat_natCast, hz1, Nat.mul_one] at h
  exact h
theorem own_made (w : World) (base n : Nat) (hb : base ≤ w.heap.size) (hm : n ≤ maxLen) : OwnB (w.alloc (.cells (madeCells #[Value.int .u8 0] n) 5)) base 5 (.slice (some ⟨w.heap.size, 0, none⟩) n n) n (List.replicate n 0) := by
  refine own_of_row (cur := byteCells (List.replicate n 0)) ?_ hb (Nat.le_refl _) hm (by simp [byteCells]) (List.take_of_length_le (by simp [byteCells]))
  have e : madeCells #[Value.int .u8 0] n = (byteCells (List.replicate n 0)).toArray := by
    apply Array.toList_inj.1
    rw [toList_madeCells_one]
    simp [byteCells]
  rw [e]
  exact heap_alloc_new w _

theorem only_mod {g : Nat} {S : Nat → Prop} {w w1 w2 : World} (h : Only g w w1) (hm : Mod S w1 w2) (hS : ∀ k, S k → w.heap.size ≤ k) : Only g w w2 :=
  ⟨hm.os.trans h.os, hm.tape.trans h.tape, hm.output.trans h.output, Nat.le_trans h.size hm.size, fun k hk hne => (hm.block k (Nat.lt_of_lt_of_le hk h.size) (fun hs => by have := hS k hs; omega)).trans (h.block k hk hne)⟩
theorem only_drew {g : Nat} {w w' : World} (h : Only g w w') : Only g w w'.drew := ⟨h.os, h.tape, h.output, h.size, h.block⟩
theorem splice_all {α : Type} {L X : List α} (h : L.length = X.length) : splice L 0 X = X := by
  unfold splice
  rw [List.drop_of_length_le (by omega)]
  simp

/-- A read beyond what is left: the reader isn't fine any more. -/
theorem bytes_short (g : Nat) (A : Option Addr) (l c : Nat) (p n : Int) (w : World) (h : Rd w g A l c p false) (hm : l ≤ 1099511627776) (p0 : 0 ≤ p) (p1 : p ≤ l) (hn : (l : Int) - p < n) :
    Calls Tryz.prog 89 #[.pointer (some ⟨g, 0, none⟩), .int .i64 n] w fun e w' => e = .returned (.slice none 0 0) ∧ Rd w' g A l c p true ∧ Only g w w' := by
  have H := Lib.hid h
  have HOK := Lib.hid (ok_any g A l c p false w h)
  have HLF := Lib.hid (left_any g A l c p false w h (by omega) p0 p1)
  have hn0 : decide (n < 0) = false := by simp; omega
  clear h
  go_enter Tryz.func89, Tryz.ntmps89
  go_wp2_with (first | (go_at_call 128; refine HOK.out.mono ?_; rintro e w' ⟨rfl, rfl⟩) | (go_at_call 129; refine HLF.out.mono ?_; rintro e w' ⟨rfl, nq, rfl⟩; obtain ⟨c0, c1, c2, f1, f2⟩ := (H.out.drewN nq).cells))
  go_ret
  exact ⟨rfl, (H.out.drewN nq).setBad, only_set (only_drewN (only_refl g w) nq) _ _⟩

set_option maxRecDepth 100000 in
set_option maxHeartbeats 1000000 in
/-- Bytes that are there are read, into memory of their own. -/
theorem bytes_any (g : Nat) (A : Option Addr) (l c : Nat) (bs : List UInt8) (B : Nat) (p n : Nat) (w : World) (h : Rd w g A l c (p : Int) false) (hl : bs.length = l) (hm : l ≤ 1099511627776) (hlc : l ≤ c) (hp : p + n ≤ l) (hb : Bytes w B A bs) (hB : B ≤ w.heap.size) :
    Calls Tryz.prog 89 #[.pointer (some ⟨g, 0, none⟩), .int .i64 (n : Int)] w fun e w' => ∃ A' k, e = .returned (.slice A' n k) ∧ OwnB w' w.heap.size 5 (.slice A' n k) n ((bs.drop p).take n) ∧ Rd w' g A l c ((p : Int) + n) false ∧ Only g w w' := by
  have H := Lib.hid h
  have HOK := Lib.hid (ok_any g A l c p false w h)
  have HLF := Lib.hid (left_any g A l c p false w h (by omega) (by omega) (by omega))
  have hn0 : decide ((n : Int) < 0) = false := by simp
  have hn1 : decide ((l : Int) - (p : Int) < (n : Int)) = false := by simp; omega
  have hgl := h.lt
  have hmk := make_bytes n (by omega)
  have HB : Hid (Bytes w B A bs) := hb
  have HL := Lib.hid hl
  clear h hb hl
  go_enter Tryz.func89, Tryz.ntmps89
  go_wp2_with (first | (go_at_call 128; refine HOK.out.mono ?_; rintro e w' ⟨rfl, rfl⟩) | (go_at_call 129; refine HLF.out.mono ?_; rintro e w' ⟨rfl, nq, rfl⟩))
  have HM := Lib.hid (own_made (w.drewN nq) w.heap.size n (Nat.le_refl _) (by unfold maxLen; omega))
  have H1 : Hid (Rd ((w.drewN nq).alloc (.cells (madeCells #[.int .u8 0] n) 5)) g A l c (p : Int) false) := (H.out.drewN nq).below ((Below.refl _ _).alloc (Nat.le_refl _) _) hgl
  have HBS := Lib.hid ((HB.out.drewN nq).alloc hB (.cells (madeCells #[.int .u8 0] n) 5))
  have HO1 := Lib.hid (only_alloc (only_drewN (only_refl g w) nq) (.cells (madeCells #[.int .u8 0] n) 5))
  have HZ : Hid (((w.drewN nq).alloc (.cells (madeCells #[.int .u8 0] n) 5)).heap.size = w.heap.size + 1) := by show _ = _; simp
  generalize hw1 : (w.drewN nq).alloc (.cells (madeCells #[.int .u8 0] n) 5) = w1 at *
  obtain ⟨c0, c1, c2, f1, f2⟩ := H1.out.cells
  clear hmk hw1 H HOK HLF
  have HN : Hid ((byteCells ((bs.drop p).take n)).length = Nat.min (l - p) n) := by
    show _ = min (l - p) n
    rw [byteCells_length, List.length_take, List.length_drop, HL.out]
    omega
  have HTL : Hid (byteCells ((bs.drop p).take n) = (byteCells (bs.drop p)).take (byteCells ((bs.drop p).take n)).length) := by
    show _ = _
    rw [byteCells_length, List.length_take, List.length_drop, HL.out, show min n (l - p) = n by omega]
    unfold byteCells
    rw [← List.map_take]
  have HSP : Hid (splice (byteCells (List.replicate n 0)) 0 (byteCells ((bs.drop p).take n)) = byteCells ((bs.drop p).take n)) :=
    splice_all (by rw [HN.out, byteCells_length, List.length_replicate]; show n = min (l - p) n; omega)
  have HFIT : Hid (0 + (byteCells ((bs.drop p).take n)).length ≤ n) := by show _ ≤ _; rw [HN.out]; show 0 + min (l - p) n ≤ n; omega
  by_cases hl0 : l = 0
  · subst hl0
    obtain rfl : p = 0 := by omega
    obtain rfl : n = 0 := by omega
    have hc0 : 0 ≤ c := by omega
    cases A with
    | none =>
      go_still_tail 10, (by kernel_rfl)
      repeat still_step
      change wpList _ _ _ _ _ w1.drew
      refine wpList_copy_into w1.drew rfl (.tmp 22) (.tmp 31) 25 25 rfl HM.out.drew Tryz.underlying25 byteSize _ _ _ _ _ _ rfl rfl 0 (byteCells ((bs.drop 0).take 0)) rfl (fun _ => ⟨w.heap.size, rfl, rfl⟩) B [] (Cells.nil _ _ _) rfl (Nat.le_refl _) (byteCells_one _) ?_
      intro w2 hown hmod
      rw [HSP.out] at hown
      have HO2 := Lib.hid hown
      have HM2 := Lib.hid hmod
      clear hown hmod
      have hne : ¬ ownS (Value.slice (some ⟨(w.drewN nq).heap.size, 0, none⟩) 0 0) g := by simp [ownS, Value.ownBlock]; omega
      have HR2 : Hid (Rd w2 g none 0 c ((0 : Nat) : Int) false) := HM2.out.keep (w := w1.drew) H1.out hne
      have HNE := Lib.hid hne
      have HON := Lib.hid (only_mod (only_drew HO1.out) HM2.out (fun k hk => by simp [ownS, Value.ownBlock] at hk; omega))
      clear c0 c1 c2 f1 f2 hne
      obtain ⟨c0, c1, c2, f1, f2⟩ := HR2.out.cells
      go_wp2
      go_ret
      refine ⟨_, _, rfl, ?_, HR2.out.setAt _, only_set HON.out _ _⟩
      refine own_keep HO2.out ((Mod.refl (oneB g) w2).set ⟨g, 1, none⟩ _ (.inl rfl)) (fun k hk hg => ?_)
      unfold oneB at hg
      subst hg
      exact HNE.out hk
    | some ad =>
      go_still_tail 10, (by kernel_rfl)
      repeat still_step
      change wpList _ _ _ _ _ w1.drew
      refine wpList_copy_into w1.drew rfl (.tmp 22) (.tmp 31) 25 25 rfl HM.out.drew Tryz.underlying25 byteSize _ _ _ _ _ _ rfl rfl 0 (byteCells ((bs.drop 0).take 0)) rfl (fun _ => ⟨w.heap.size, rfl, rfl⟩) B [] (Cells.nil _ _ _) rfl (Nat.le_refl _) (byteCells_one _) ?_
      intro w2 hown hmod
      rw [HSP.out] at hown
      have HO2 := Lib.hid hown
      have HM2 := Lib.hid hmod
      clear hown hmod
      have hne : ¬ ownS (Value.slice (some ⟨(w.drewN nq).heap.size, 0, none⟩) 0 0) g := by simp [ownS, Value.ownBlock]; omega
      have HR2 : Hid (Rd w2 g (some ad) 0 c ((0 : Nat) : Int) false) := HM2.out.keep (w := w1.drew) H1.out hne
      have HNE := Lib.hid hne
      have HON := Lib.hid (only_mod (only_drew HO1.out) HM2.out (fun k hk => by simp [ownS, Value.ownBlock] at hk; omega))
      clear c0 c1 c2 f1 f2 hne
      obtain ⟨c0, c1, c2, f1, f2⟩ := HR2.out.cells
      go_wp2
      go_ret
      refine ⟨_, _, rfl, ?_, HR2.out.setAt _, only_set HON.out _ _⟩
      refine own_keep HO2.out ((Mod.refl (oneB g) w2).set ⟨g, 1, none⟩ _ (.inl rfl)) (fun k hk hg => ?_)
      unfold oneB at hg
      subst hg
      exact HNE.out hk
  · obtain ⟨b, o, rfl, hbB, hcell⟩ := HBS.out (by rw [byteCells_length, HL.out]; omega)
    have HCELL := Lib.hid hcell
    clear hcell
    have hpl : p ≤ l := by omega
    have hpc : p ≤ c := by omega
    go_still_tail 10, (by kernel_rfl)
    repeat still_step
    change wpList _ _ _ _ _ w1.drew
    refine wpList_copy_into w1.drew rfl (.tmp 22) (.tmp 31) 25 25 rfl HM.out.drew Tryz.underlying25 byteSize _ _ _ _ _ _ rfl rfl 0 (byteCells ((bs.drop p).take n)) HN.out (fun _ => ⟨w.heap.size, rfl, rfl⟩) w1.heap.size (byteCells (bs.drop p)) ?_ HTL.out HFIT.out (byteCells_one _) ?_
    · by_cases hcq : c = p
      · rw [if_pos hcq, List.drop_of_length_le (by rw [HL.out]; omega)]
        exact Cells.nil _ _ _
      · rw [if_neg hcq]
        refine fun _ => ⟨b, o + p, rfl, by have := HZ.out; omega, fun j u hu => ?_⟩
        have := HCELL.out (p + j) u (by rw [← hu]; simp [byteCells, List.getElem?_drop])
        rw [← Nat.add_assoc] at this
        exact this
    intro w2 hown hmod
    generalize (if c = p then some (⟨b, o, none⟩ : Addr) else some ⟨b, o + p, none⟩) = PA
    rw [HSP.out] at hown
    have HO2 := Lib.hid hown
    have HM2 := Lib.hid hmod
    clear hown hmod
    have hne : ¬ ownS (Value.slice (some ⟨(w.drewN nq).heap.size, 0, none⟩) n n) g := by simp [ownS, Value.ownBlock]; omega
    have HR2 : Hid (Rd w2 g (some ⟨b, o, none⟩) l c (p : Int) false) := HM2.out.keep (w := w1.drew) H1.out hne
    have HNE := Lib.hid hne
    have HON := Lib.hid (only_mod (only_drew HO1.out) HM2.out (fun k hk => by simp [ownS, Value.ownBlock] at hk; omega))
    clear c0 c1 c2 f1 f2 hne
    obtain ⟨c0, c1, c2, f1, f2⟩ := HR2.out.cells
    go_wp2
    all_goals
      go_ret
      refine ⟨_, _, rfl, ?_, HR2.out.setAt _, only_set HON.out _ _⟩
      refine own_keep HO2.out ((Mod.refl (oneB g) w2).set ⟨g, 1, none⟩ _ (.inl rfl)) (fun k hk hg => ?_)
      unfold oneB at hg
      subst hg
      exact HNE.out hk

/-- Bytes, whatever the reader's state. -/
theorem bytes_st (g : Nat) (A : Option Addr) (l c : Nat) (bs : List UInt8) (B : Nat) (s : RSt) (n : Nat) (w : World) (h : RdK w g A l c s) (hl : bs.length = l) (hm : l ≤ 1099511627776) (hlc : l ≤ c)
    (hp : s.p ≤ l) (hb : Bytes w B A bs) (hB : B ≤ w.heap.size) :
    Calls Tryz.prog 89 #[.pointer (some ⟨g, 0, none⟩), .int .i64 (n : Int)] w fun e w' => ∃ A' m k, e = .returned (.slice A' m k) ∧ OwnB w' w.heap.size 5 (.slice A' m k) m (s.row bs n).1 ∧ RdK w' g A l c (s.row bs n).2 ∧ Only g w w' := by
  obtain ⟨p, bad⟩ := s
  cases bad with
  | true => exact (bytes_bad g A l c p n w h).mono fun e w' ⟨he, hw⟩ => ⟨none, 0, 0, he, by subst hw; exact World.ownsRow_nil _ _ _ _, by subst hw; exact h, by subst hw; exact only_refl g w⟩
  | false =>
    by_cases hf : p + n ≤ bs.length
    · refine (bytes_any g A l c bs B p n w h hl hm hlc (by omega) hb hB).mono fun e w' ⟨A', k, he, ho, hr, hon⟩ => ?_
      have hn : RSt.row bs ⟨p, false⟩ n = ((bs.drop p).take n, ⟨p + n, false⟩) := by simp [RSt.row, hf]
      rw [hn]
      exact ⟨A', n, k, he, ho, hr, hon⟩
    · refine (bytes_short g A l c p n w h hm (by omega) (by have : p ≤ l := hp; omega) (by omega)).mono fun e w' ⟨he, hr, hon⟩ => ?_
      have hn : RSt.row bs ⟨p, false⟩ n = ([], ⟨p, true⟩) := by simp [RSt.row, hf]
      rw [hn]
      exact ⟨none, 0, 0, he, World.ownsRow_nil _ _ _ _, hr, hon⟩

end Go.Proofs.YtaknladkodibaaaGreatDoor
/- Marks and sums that are read: Is, Open, Check. -/
namespace Go.Proofs.YtaknladkodibaaaGreatDoor
open Go.RowKit CrcP FieldP

end Go.Proofs.YtaknladkodibaaaGreatDoor
/- The states of a reader, plainly. -/
namespace Go.Proofs.YtaknladkodibaaaGreatDoor
open Go.RowKit CrcP FieldP

theorem Box.set {w : World} {g i : Nat} {cs : Array Value} {t : TypeId} (h : Box w g cs t) (v : Value) : Box (w.setCell ⟨g, i, none⟩ v) g (cs.setIfInBounds i v) t := heap_setCell_same w g i _ _ _ h
theorem Box.only {w w' : World} {g k : Nat} {cs : Array Value} {t : TypeId} (h : Box w k cs t) (ho : Only g w w') (hne : k ≠ g) : Box w' k cs t := (ho.block k h.lt (fun e => by injection e with e; exact hne (by first | exact e | exact e.symm))).trans h
theorem Box.set_other {w : World} {g i k : Nat} {cs : Array Value} {t : TypeId} (h : Box w k cs t) (v : Value) (hne : k ≠ g) : Box (w.setCell ⟨g, i, none⟩ v) k cs t := (Below.heap_setCell w _ v k (fun e => hne (by simpa using e))).trans h
theorem RdK.set_other {w : World} {g i k : Nat} {A : Option Addr} {l c : Nat} {s : RSt} (h : RdK w k A l c s) (v : Value) (hne : k ≠ g) : RdK (w.setCell ⟨g, i, none⟩ v) k A l c s := (Below.heap_setCell w _ v k (fun e => hne (by simpa using e))).trans h

end Go.Proofs.YtaknladkodibaaaGreatDoor
/- Three numbers between a mark and the sum, read. -/
namespace Go.Proofs.YtaknladkodibaaaGreatDoor
open Go.RowKit CrcP FieldP

end Go.Proofs.YtaknladkodibaaaGreatDoor
/- Three numbers between a mark and the sum, plainly: what is read where they are all there, where not, and where they were put. -/
namespace Go.Proofs.YtaknladkodibaaaGreatDoor
open Go.RowKit CrcP FieldP

end Go.Proofs.YtaknladkodibaaaGreatDoor
/- The reference's number of four bytes that is there. -/
namespace Go.Proofs.YtaknladkodibaaaGreatDoor
open Go.RowKit FieldP

end Go.Proofs.YtaknladkodibaaaGreatDoor
/- Layer 14, plainly: the pieces of bytes. -/
namespace Go.Proofs.YtaknladkodibaaaGreatDoor
open FieldP

/-- The pieces that bytes begin with, and why there are no more: 0, the end stands where they end; 2, bytes lack; 3, there are more. k: rounds. -/
def pcL : Nat → List UInt8 → List (List UInt8) × Int
  | 0, _ => ([], 2)
  | k + 1, R => if R.length < 2 then ([], 2) else if val (R.take 2) = 0 then ([], if R.length = 2 then 0 else 3) else if R.length < 2 + val (R.take 2) then ([], 2)
      else ((R.drop 2).take (val (R.take 2)) :: (pcL k (R.drop (2 + val (R.take 2)))).1, (pcL k (R.drop (2 + val (R.take 2)))).2)
def pcA (bs : List UInt8) : List (List UInt8) × Int := pcL (bs.length + 1) bs
theorem pcL_short {k : Nat} {R : List UInt8} (h : R.length < 2) : pcL (k + 1) R = ([], 2) := by unfold pcL; rw [if_pos h]
theorem pcL_end {k : Nat} {R : List UInt8} (h : ¬ R.length < 2) (h0 : val (R.take 2) = 0) : pcL (k + 1) R = ([], if R.length = 2 then 0 else 3) := by unfold pcL; rw [if_neg h, if_pos h0]
theorem pcL_long {k : Nat} {R : List UInt8} (h : ¬ R.length < 2) (h0 : val (R.take 2) ≠ 0) (h1 : R.length < 2 + val (R.take 2)) : pcL (k + 1) R = ([], 2) := by unfold pcL; rw [if_neg h, if_neg h0, if_pos h1]
theorem pcL_step {k : Nat} {R : List UInt8} (h : ¬ R.length < 2) (h0 : val (R.take 2) ≠ 0) (h1 : ¬ R.length < 2 + val (R.take 2)) :
    pcL (k + 1) R = ((R.drop 2).take (val (R.take 2)) :: (pcL k (R.drop (2 + val (R.take 2)))).1, (pcL k (R.drop (2 + val (R.take 2)))).2) := by
  rw [pcL, if_neg h, if_neg h0, if_neg h1]
/-- How a reader stands where pieces ended so. -/
def FinP (l : Nat) (st : RSt) (e : Int) : Prop := (st.bad = true ∧ e = 2) ∨ (st.bad = false ∧ st.p = l ∧ e = 0) ∨ (st.bad = false ∧ st.p < l ∧ e = 3)
/-- What a round reads: nothing more, and how the reader stands; or a piece. -/
theorem pc_round {bs : List UInt8} {st : RSt} {k : Nat} (hb : st.bad = false) (hp : st.p ≤ bs.length) {n1 : Nat} {s1 s2 : RSt} {r : List UInt8} (h1 : st.num bs 2 = (n1, s1)) (h2 : s1.row bs n1 = (r, s2)) :
    (r = [] ∧ (pcL (k + 1) (bs.drop st.p)).1 = [] ∧ FinP bs.length s2 (pcL (k + 1) (bs.drop st.p)).2) ∨
    (r ≠ [] ∧ s2.bad = false ∧ st.p + 2 + r.length = s2.p ∧ s2.p ≤ bs.length ∧ pcL (k + 1) (bs.drop st.p) = (r :: (pcL k (bs.drop s2.p)).1, (pcL k (bs.drop s2.p)).2)) := by
  obtain ⟨p, bad⟩ := st
  dsimp only at hb hp
  subst hb
  have hl : (bs.drop p).length = bs.length - p := List.length_drop
  by_cases hs : p + 2 ≤ bs.length
  · simp only [RSt.num, Bool.false_eq_true, if_false, hs, if_true, Prod.mk.injEq] at h1
    obtain ⟨h1, rfl⟩ := h1
    have hshort : ¬ (bs.drop p).length < 2 := by omega
    by_cases h0 : n1 = 0
    · left
      have h0' : val ((bs.drop p).take 2) = 0 := h1.trans h0
      simp only [RSt.row, Bool.false_eq_true, if_false, h0, Nat.add_zero, hs, if_true, Prod.mk.injEq, List.take_zero] at h2
      obtain ⟨rfl, rfl⟩ := h2
      rw [pcL_end hshort h0']
      refine ⟨rfl, rfl, ?_⟩
      show FinP _ _ (if _ then _ else _)
      by_cases he : (bs.drop p).length = 2
      · rw [if_pos he]
        exact .inr (.inl ⟨rfl, by dsimp only; omega, rfl⟩)
      · rw [if_neg he]
        exact .inr (.inr ⟨rfl, by dsimp only; omega, rfl⟩)
    · have h0' : val ((bs.drop p).take 2) ≠ 0 := fun e => h0 (h1.symm.trans e)
      by_cases hlong : p + 2 + n1 ≤ bs.length
      · right
        simp only [RSt.row, Bool.false_eq_true, if_false, hlong, if_true, Prod.mk.injEq] at h2
        obtain ⟨rfl, rfl⟩ := h2
        have hll : ((bs.drop (p + 2)).take n1).length = n1 := by rw [List.length_take, List.length_drop]; omega
        refine ⟨fun e => ?_, rfl, ?_, hlong, ?_⟩
        · rw [e] at hll
          exact h0 hll.symm
        · rw [hll]
        · rw [pcL_step hshort h0' (by rw [h1]; omega), h1, List.drop_drop, List.drop_drop, Nat.add_assoc]
      · left
        simp only [RSt.row, Bool.false_eq_true, if_false, hlong, Prod.mk.injEq] at h2
        obtain ⟨rfl, rfl⟩ := h2
        rw [pcL_long hshort h0' (by rw [h1]; omega)]
        exact ⟨rfl, rfl, .inl ⟨rfl, rfl⟩⟩
  · left
    simp only [RSt.num, Bool.false_eq_true, if_false, hs, Prod.mk.injEq] at h1
    obtain ⟨rfl, rfl⟩ := h1
    simp only [RSt.row, if_true, Prod.mk.injEq] at h2
    obtain ⟨rfl, rfl⟩ := h2
    dsimp only
    rw [pcL_short (show (bs.drop p).length < 2 by omega)]
    exact ⟨rfl, rfl, .inl ⟨rfl, rfl⟩⟩
end Go.Proofs.YtaknladkodibaaaGreatDoor
