/- Marks and sums that are read: Is, Open, Check. -/
import Derived.Test.YtnccbnadfgilaaaKRead
import Derived.Test.YtnccbnadfgilaaaKSeal
namespace Go.Proofs.Ytnccbnadfgilaaa
open Go.RowKit CrcP FieldP

/-- Does a mark stand at a place? -/
def isB (mk bs : List UInt8) (p : Int) : Bool := decide (0 ≤ p) && decide (p ≤ (bs.length : Int) - mk.length) && decide ((bs.drop p.toNat).take mk.length = mk)
theorem isB_low {mk bs : List UInt8} {p : Int} (h : p < 0) : isB mk bs p = false := by unfold isB; simp; omega
theorem isB_high {mk bs : List UInt8} {p : Int} (h : (bs.length : Int) - mk.length < p) : isB mk bs p = false := by unfold isB; simp; omega
theorem isB_in {mk bs : List UInt8} {p : Nat} (h : p + mk.length ≤ bs.length) : isB mk bs (p : Int) = decide ((bs.drop p).take mk.length = mk) := by
  unfold isB
  rw [decide_eq_true (by omega), decide_eq_true (by omega), Int.toNat_natCast]
  rfl
theorem bytes_eq (X : List UInt8) (s : ByteArray) : ((⟨X.toArray⟩ : ByteArray).toList == s.toList) = decide (X = s.data.toList) := by
  rw [ByteArray.toList_eq, ByteArray.toList_eq, Bool.eq_iff_iff]
  simp

set_option maxRecDepth 100000 in
set_option maxHeartbeats 1000000 in
theorem is_any (s : ByteArray) (A : Option Addr) (l c : Nat) (bs : List UInt8) (B : Nat) (p : Int) (w : World) (hs : s.size = 4) (hl : bs.length = l) (hm : l ≤ 1099511627776) (hlc : l ≤ c)
    (p0 : -9223372036854775808 ≤ p) (p1 : p ≤ 9223372036854775807) (hb : Bytes w B A bs) :
    Calls Try.prog 50 #[.string s, .slice A l c, .int .i64 p] w fun e w' => e = .returned (.bool (isB s.data.toList bs p)) ∧ w = w' := by
  have hsl : s.data.toList.length = 4 := by rw [Array.length_toList]; exact hs
  have HS := Lib.hid hs
  have HL := Lib.hid hl
  have HB : Hid (Bytes w B A bs) := hb
  have hsz : s.data.size = 4 := hs
  clear hl hb hs
  by_cases hp : p < 0
  · have HI := Lib.hid (isB_low (mk := s.data.toList) (bs := bs) hp)
    clear hsl
    go_enter Try.func50, Try.ntmps50
    go_wp2
    go_ret
    exact ⟨by rw [HI.out]; rfl, rfl⟩
  obtain ⟨p, rfl⟩ := Int.eq_ofNat_of_zero_le (show 0 ≤ p by omega)
  by_cases hh : (l : Int) - 4 < p
  · have HI := Lib.hid (isB_high (mk := s.data.toList) (bs := bs) (p := (p : Int)) (by rw [hsl, HL.out]; omega))
    have hsz' : (s.size : Int) = 4 := by rw [HS.out]; rfl
    clear hsl
    go_enter Try.func50, Try.ntmps50
    go_wp2
    go_ret
    exact ⟨by rw [HI.out]; rfl, rfl⟩
  · have HI := Lib.hid (isB_in (mk := s.data.toList) (bs := bs) (p := p) (by rw [hsl, HL.out]; omega))
    rw [hsl] at HI
    obtain ⟨b, o, rfl, hbB, hcell⟩ := HB.out (by rw [byteCells_length, HL.out]; omega)
    have HC : Hid (Bytes w B (some ⟨b, o + p, none⟩) ((bs.drop p).take 4)) := fun _ => ⟨b, o + p, rfl, hbB, fun j u hu => by
      have h2 : (byteCells bs)[p + j]? = some u := by
        unfold byteCells at hu ⊢
        rw [List.getElem?_map, List.getElem?_take] at hu
        split at hu
        · rw [List.getElem?_drop] at hu
          rw [List.getElem?_map, hu]
        · simp at hu
      have := hcell (p + j) u h2
      rw [← Nat.add_assoc] at this
      exact this⟩
    have hcv := run_string_of (P := Try.prog) (c := c - p) 22 9 5 Try.underlying22 Try.underlying5 Try.underlying9 HC.out (l := 4) (by rw [List.length_take, List.length_drop, HL.out]; omega)
    have HT : Hid (∃ t : ByteArray, t = ⟨((bs.drop p).take 4).toArray⟩) := ⟨_, rfl⟩
    obtain ⟨t, ht⟩ := HT.out
    rw [← ht] at hcv
    have HT := Lib.hid ht
    have hsz' : (s.size : Int) = 4 := by rw [HS.out]; rfl
    have hcp : ¬ c = p := by omega
    have hpl : p + 4 ≤ l := by omega
    clear ht hcell hsl
    go_enter Try.func50, Try.ntmps50
    go_wp2
    go_ret
    refine ⟨?_, rfl⟩
    show Ending.returned (.bool (t.toList == s.toList)) = _
    rw [HI.out, HT.out, bytes_eq]

set_option maxHeartbeats 400000 in
theorem open_arg (s : ByteArray) (A : Option Addr) (l c : Nat) (p : Int) (w : World) (h : p < 0 ∨ (l : Int) < p) :
    Calls Try.prog 38 #[.string s, .slice A l c, .int .i64 p] w fun e w' => e = .returned (.tuple #[.pointer none, .int .i64 1]) ∧ w = w' := by
  by_cases h0 : p < 0
  · clear h
    go_enter Try.func38, Try.ntmps38
    go_wp2
    go_ret2
    exact ⟨rfl, rfl⟩
  · have h1 : (l : Int) < p := by omega
    clear h
    go_enter Try.func38, Try.ntmps38
    go_wp2
    go_ret2
    exact ⟨rfl, rfl⟩
set_option maxHeartbeats 400000 in
theorem open_form (s : ByteArray) (A : Option Addr) (l c : Nat) (bs : List UInt8) (B : Nat) (p : Nat) (w : World) (hs : s.size = 4) (hl : bs.length = l) (hm : l ≤ 1099511627776) (hlc : l ≤ c)
    (hb : Bytes w B A bs) (hp : p + 4 ≤ l) (hi : isB s.data.toList bs p = false) :
    Calls Try.prog 38 #[.string s, .slice A l c, .int .i64 (p : Int)] w fun e w' => e = .returned (.tuple #[.pointer none, .int .i64 3]) ∧ w = w' := by
  have HI := Lib.hid (is_any s A l c bs B p w hs hl hm hlc (by omega) (by omega) hb)
  rw [hi] at HI
  have hsz : (s.size : Int) = 4 := by rw [hs]; rfl
  have hsz' : s.data.size = 4 := hs
  have h1 : ¬ (l : Int) < p := by omega
  have h2 : decide ((4 : Int) ≤ (l : Int) - (p : Int)) = true := by simp; omega
  clear hl hb hi hs
  go_enter Try.func38, Try.ntmps38
  go_wp2_with (go_at_call 50; refine HI.out.mono ?_; rintro e w' ⟨rfl, rfl⟩)
  go_ret2
  exact ⟨rfl, rfl⟩

/-- The reader's state behind a mark at a place. -/
def openS (bs : List UInt8) (p : Nat) : RSt := (RSt.row bs ⟨p, false⟩ 4).2
set_option maxHeartbeats 1000000 in
theorem open_ok (s : ByteArray) (A : Option Addr) (l c : Nat) (bs : List UInt8) (B : Nat) (p : Nat) (w : World) (hs : s.size = 4) (hl : bs.length = l) (hm : l ≤ 1099511627776) (hlc : l ≤ c)
    (hb : Bytes w B A bs) (hB : B ≤ w.heap.size) (hp : p ≤ l) (hi : p + 4 ≤ l → isB s.data.toList bs p = true) :
    Calls Try.prog 38 #[.string s, .slice A l c, .int .i64 (p : Int)] w fun e w' => ∃ g, e = .returned (.tuple #[.pointer (some ⟨g, 0, none⟩), .int .i64 0]) ∧ w.heap.size ≤ g ∧ RdS w' g A l c (openS bs p) ∧ Below w.heap.size w w' := by
  have hsz : (s.size : Int) = 4 := by rw [hs]; rfl
  have hsz' : s.data.size = 4 := hs
  have h1 : ¬ (l : Int) < p := by omega
  have HN := Lib.hid (new_any A l c w)
  have HSK := Lib.hid (seek_any w.heap.size A l c 0 (p : Int) _ (rd_new A l c w) (by omega) (by omega))
  have HBA := Lib.hid (hb.alloc hB (.cells #[.slice A l c, .int .i64 0, .bool false] 77))
  have HB0 := Lib.hid ((Below.refl w.heap.size w).alloc (Nat.le_refl _) (.cells #[.slice A l c, .int .i64 0, .bool false] 77))
  have HZ : Hid ((w.alloc (.cells #[.slice A l c, .int .i64 0, .bool false] 77)).heap.size = w.heap.size + 1) := by show _ = _; simp
  have HL := Lib.hid hl
  have HST : Hid (openS bs p = (RSt.row bs ⟨p, false⟩ 4).2) := rfl
  have HI : Hid (p + 4 ≤ l → Calls Try.prog 50 #[.string s, .slice A l c, .int .i64 p] w fun e w' => e = .returned (.bool true) ∧ w = w') := fun h4 => by
    have := is_any s A l c bs B p w hs hl hm hlc (by omega) (by omega) hb
    rwa [hi h4] at this
  clear hb hl hi hs
  have tail : ∀ w2, RdS w2 w.heap.size A l c ⟨p, false⟩ → Only w.heap.size (w.alloc (.cells #[.slice A l c, .int .i64 0, .bool false] 77)) w2 →
      Calls Try.prog 51 #[.pointer (some ⟨w.heap.size, 0, none⟩), .int .i64 4] w2 fun e w' => ∃ A' m k, e = .returned (.slice A' m k) ∧ RdS w' w.heap.size A l c (openS bs p) ∧ Below w.heap.size w w' := by
    intro w2 hr ho
    have hz := HZ.out
    have hbw := only_below ho HB0.out (by omega) (Nat.le_refl _)
    refine (bytes_st w.heap.size A l c bs B ⟨p, false⟩ 4 w2 hr HL.out hm hlc hp (HBA.out.below (only_below ho (Below.refl w.heap.size _) (by omega) (Nat.le_refl _)) hB) (Nat.le_trans hB hbw.size)).mono ?_
    rintro e w3 ⟨A', m, k, he, _, hr3, ho3⟩
    exact ⟨A', m, k, he, hr3, only_below ho3 hbw hbw.size (Nat.le_refl _)⟩
  have HT := Lib.hid tail
  clear tail
  by_cases h4 : p + 4 ≤ l
  · have HI2 := Lib.hid (HI.out h4)
    have h2 : decide ((4 : Int) ≤ (l : Int) - (p : Int)) = true := by simp; omega
    go_enter Try.func38, Try.ntmps38
    go_wp2_with (first | (go_at_call 50; refine HI2.out.mono ?_; rintro e w' ⟨rfl, rfl⟩) | (go_at_call 27; refine HN.out.mono ?_; rintro e w' ⟨rfl, rfl⟩) | (go_at_call 28; refine HSK.out.mono ?_; rintro e w2 ⟨rfl, hr, ho⟩; have HR := Lib.hid hr; have HO := Lib.hid ho; clear hr ho) | (go_at_call 51; refine (HT.out _ HR.out HO.out).mono ?_; rintro e w3 ⟨A', m, k, rfl, hr, hbw⟩; have HR3 := Lib.hid hr; have HB3 := Lib.hid hbw; clear hr hbw))
    go_ret2
    exact ⟨_, rfl, Nat.le_refl _, HR3.out, HB3.out⟩
  · have h2 : decide ((4 : Int) ≤ (l : Int) - (p : Int)) = false := by simp; omega
    go_enter Try.func38, Try.ntmps38
    go_wp2_with (first | (go_at_call 27; refine HN.out.mono ?_; rintro e w' ⟨rfl, rfl⟩) | (go_at_call 28; refine HSK.out.mono ?_; rintro e w2 ⟨rfl, hr, ho⟩; have HR := Lib.hid hr; have HO := Lib.hid ho; clear hr ho) | (go_at_call 51; refine (HT.out _ HR.out HO.out).mono ?_; rintro e w3 ⟨A', m, k, rfl, hr, hbw⟩; have HR3 := Lib.hid hr; have HB3 := Lib.hid hbw; clear hr hbw))
    go_ret2
    exact ⟨_, rfl, Nat.le_refl _, HR3.out, HB3.out⟩

/-- What Check tells, of a reader in a state, from a place on. -/
def chkN (bs : List UInt8) (p : Nat) (s : RSt) : Nat :=
  if (s.num bs 4).2.bad = true then 2 else if (s.num bs 4).1 = sumN ((bs.drop p).take (s.p - p)) then 0 else 4
theorem table_ne {w : World} {tg g : Nat} {A : Option Addr} {l c : Nat} {p : Int} {bad : Bool} (hT : Table w tg) (hr : Rd w g A l c p bad) : tg ≠ g := by
  intro he
  subst he
  unfold Table at hT
  unfold Rd at hr
  rw [hT] at hr
  injection hr with hr
  injection hr with _ ht
  exact absurd ht (by decide)
theorem table_only {w w' : World} {tg g : Nat} (hT : Table w tg) (ho : Only g w w') (hne : tg ≠ g) : Table w' tg := (ho.block tg hT.lt (fun e => by injection e with e; exact hne (by first | exact e | exact e.symm))).trans hT

set_option maxRecDepth 100000 in
set_option maxHeartbeats 1000000 in
theorem check_any (tg g : Nat) (A : Option Addr) (l c : Nat) (bs : List UInt8) (B : Nat) (p : Nat) (s : RSt) (w : World) (hT : Table w tg) (h : RdS w g A l c s) (hl : bs.length = l) (hm : l ≤ 1099511627776) (hlc : l ≤ c)
    (hs : s.p ≤ l) (hps : p ≤ s.p) (hb : Bytes w B A bs) (hB : B ≤ g) :
    Calls Try.prog 39 #[.pointer (some ⟨tg, 0, none⟩), .pointer (some ⟨g, 0, none⟩), .slice A l c, .int .i64 (p : Int)] w fun e w' => e = .returned (.int .i64 (chkN bs p s : Nat)) ∧ RdS w' g A l c (s.num bs 4).2 ∧ Only g w w' := by
  have HAT := Lib.hid (at_any g A l c s.p s.bad w h)
  have HNU := Lib.hid (number_st g A l c bs B s 4 4 w h hl hm hs (by omega) (by omega) rfl hb)
  have hne := table_ne hT h
  have HT : Hid (Table w tg) := hT
  have HB : Hid (Bytes w B A bs) := hb
  have HL := Lib.hid hl
  have hgw := h.lt
  have HNE := Lib.hid hne
  have hlt := num_lt (bs := bs) (s := s) (k := 4) (Nat.le_refl _)
  have HD : Hid (chkN bs p s = if (s.num bs 4).2.bad = true then 2 else if (s.num bs 4).1 = sumN ((bs.drop p).take (s.p - p)) then 0 else 4) := rfl
  have HG : Hid ((s.num bs 4).2.bad = false → s.p + 4 ≤ l) := fun hf => by
    unfold RSt.num at hf
    split at hf
    · rename_i h1; rw [h1] at hf; cases hf
    · split at hf
      · rw [← hl]; assumption
      · cases hf
  clear h hT hb hl hne
  generalize hnum : s.num bs 4 = r at *
  obtain ⟨x, st⟩ := r
  obtain ⟨q, bad2⟩ := st
  cases bad2 with
  | true =>
    have HD2 : Hid (chkN bs p s = 2) := by show _ = _; rw [HD.out]; rfl
    clear HD HG
    go_enter Try.func39, Try.ntmps39
    go_wp2_with (first | (go_at_call 30; refine HAT.out.mono ?_; rintro e w' ⟨rfl, rfl⟩) | (go_at_call 29; refine HNU.out.mono ?_; rintro e w2 ⟨rfl, hr, ho⟩; have HR := Lib.hid hr; have HO := Lib.hid ho; clear hr ho) | (go_at_call 31; refine (ok_any g A l c _ _ _ HR.out).mono ?_; rintro e w' ⟨rfl, rfl⟩))
    go_ret
    exact ⟨by rw [HD2.out]; rfl, HR.out, HO.out⟩
  | false =>
    have h4 : s.p + 4 ≤ l := HG.out rfl
    obtain ⟨b, o, rfl, hbB, hcell⟩ := HB.out (by rw [byteCells_length, HL.out]; omega)
    have HC : Hid (Bytes w B (some ⟨b, o + p, none⟩) ((bs.drop p).take (s.p - p))) := fun _ => ⟨b, o + p, rfl, hbB, fun j u hu => by
      have h2 : (byteCells bs)[p + j]? = some u := by
        unfold byteCells at hu ⊢
        rw [List.getElem?_map, List.getElem?_take] at hu
        split at hu
        · rw [List.getElem?_drop] at hu
          rw [List.getElem?_map, hu]
        · simp at hu
      have := hcell (p + j) u h2
      rw [← Nat.add_assoc] at this
      exact this⟩
    have HLT : Hid (((bs.drop p).take (s.p - p)).length = s.p - p) := by show _ = _; rw [List.length_take, List.length_drop, HL.out]; omega
    have hcp : ¬ c = p := by omega
    have hpp : (p : Int) ≤ (s.p : Int) := by omega
    have hsl := sumN_lt ((bs.drop p).take (s.p - p))
    clear hcell HG hnum
    have hx : x < 4294967296 := hlt
    clear hlt
    have HD2 : Hid (chkN bs p s = if x = sumN ((bs.drop p).take (s.p - p)) then 0 else 4) := HD.out
    clear HD
    obtain ⟨y, hy⟩ : ∃ y, sumN ((bs.drop p).take (s.p - p)) = y := ⟨_, rfl⟩
    have HSUM : Hid (∀ w2, Only g w w2 → Calls Try.prog 33 #[.pointer (some ⟨tg, 0, none⟩), .slice (some ⟨b, o + p, none⟩) (s.p - p) (c - p)] w2 fun e w' => e = .returned (.int .u32 (y : Nat)) ∧ w2 = w') := fun w2 ho => by
      have := sum_any tg (some ⟨b, o + p, none⟩) (s.p - p) (c - p) _ B w2 HLT.out (by omega) (table_only HT.out ho HNE.out) (HC.out.only ho (by omega) hB)
      rw [hy] at this
      exact this
    rw [hy] at HD2 hsl
    clear hy HC HLT HB
    by_cases hq : x = y
    · subst hq
      have HD3 : Hid (chkN bs p s = 0) := by show _ = _; rw [HD2.out, if_pos rfl]
      clear HD2
      go_enter Try.func39, Try.ntmps39
      go_wp2_with (first | (go_at_call 30; refine HAT.out.mono ?_; rintro e w' ⟨rfl, rfl⟩) | (go_at_call 29; refine HNU.out.mono ?_; rintro e w2 ⟨rfl, hr, ho⟩; have HR := Lib.hid hr; have HO := Lib.hid ho; clear hr ho) | (go_at_call 31; refine (ok_any g _ l c _ _ _ HR.out).mono ?_; rintro e w' ⟨rfl, rfl⟩) | (go_at_call 33; refine (HSUM.out _ HO.out).mono ?_; rintro e w' ⟨rfl, rfl⟩))
      go_ret
      exact ⟨by rw [HD3.out]; rfl, HR.out, HO.out⟩
    · have HD3 : Hid (chkN bs p s = 4) := by show _ = _; rw [HD2.out, if_neg hq]
      have hne1 : ((x : Int) != (y : Int)) = true := by simp; omega
      have hne2 : ((x : Int) == (y : Int)) = false := by simp; omega
      clear HD2 hq
      go_enter Try.func39, Try.ntmps39
      go_wp2_with (first | (go_at_call 30; refine HAT.out.mono ?_; rintro e w' ⟨rfl, rfl⟩) | (go_at_call 29; refine HNU.out.mono ?_; rintro e w2 ⟨rfl, hr, ho⟩; have HR := Lib.hid hr; have HO := Lib.hid ho; clear hr ho) | (go_at_call 31; refine (ok_any g _ l c _ _ _ HR.out).mono ?_; rintro e w' ⟨rfl, rfl⟩) | (go_at_call 33; refine (HSUM.out _ HO.out).mono ?_; rintro e w' ⟨rfl, rfl⟩))
      go_ret
      exact ⟨by rw [HD3.out]; rfl, HR.out, HO.out⟩
end Go.Proofs.Ytnccbnadfgilaaa
