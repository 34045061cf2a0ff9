/- Layer 17: tombstones are taken. -/
import Derived.Test.YtakjpkhholgdbaaDoorSt
import Derived.Test.YtakjpkhholgdbaaDoorKSts
namespace Go.Proofs.YtakjpkhholgdbaaDoor
open Go.RowKit CrcP FieldP

def tombMark : ByteArray := ⟨#[84, 79, 77, 66]⟩
theorem tombMark_list : tombMark.data.toList = tombBytes := rfl
/-- The reader's states and what it reads: how many bytes, then the bytes. -/
def stS1 (bs : List UInt8) (p : Nat) : Nat × RSt := (openS bs p).num bs 1
def stS2 (bs : List UInt8) (p : Nat) : List UInt8 × RSt := (stS1 bs p).2.row bs (stS1 bs p).1
def stR (bs : List UInt8) (p : Nat) : Nat := if chkN bs p (stS2 bs p).2 = 0 then (if rightB (stS2 bs p).1 = true then 0 else 6) else chkN bs p (stS2 bs p).2
def stV (bs : List UInt8) (p : Nat) : Value :=
  .tuple #[.string (if stR bs p = 0 then ⟨(stS2 bs p).1.toArray⟩ else ⟨#[]⟩), .int .i64 (if stR bs p = 0 then (((stS2 bs p).2.num bs 4).2.p : Int) else 0), .int .i64 (stR bs p : Nat)]
theorem stV_good {bs : List UInt8} {p : Nat} (h : stR bs p = 0) : stV bs p = .tuple #[.string ⟨(stS2 bs p).1.toArray⟩, .int .i64 (((stS2 bs p).2.num bs 4).2.p : Int), .int .i64 0] := by
  unfold stV
  rw [if_pos h, if_pos h, h]
  rfl
theorem stV_bad {bs : List UInt8} {p : Nat} (h : stR bs p ≠ 0) : stV bs p = .tuple #[.string ⟨#[]⟩, .int .i64 0, .int .i64 (stR bs p : Nat)] := by
  unfold stV
  rw [if_neg h, if_neg h]

set_option maxRecDepth 100000 in
set_option maxHeartbeats 1000000 in
theorem stTake_arg (tg : Nat) (A : Option Addr) (l c : Nat) (p : Int) (w : World) (h : p < 0 ∨ (l : Int) < p) :
    Calls Tryd.prog 13 #[.pointer (some ⟨tg, 0, none⟩), .slice A l c, .int .i64 p] w fun e w' => e = .returned (.tuple #[.string ⟨#[]⟩, .int .i64 0, .int .i64 1]) ∧ w = w' := by
  have HO := Lib.hid (fun W => open_arg tombMark A l c p W h)
  clear h
  go_enter Tryd.func13, Tryd.ntmps13
  go_wp2_with (go_at_call 25; refine (HO.out _).mono ?_; rintro e w' ⟨rfl, rfl⟩)
  go_ret3
  exact ⟨rfl, rfl⟩
set_option maxRecDepth 100000 in
set_option maxHeartbeats 1000000 in
theorem stTake_form (tg : Nat) (A : Option Addr) (l c : Nat) (bs : List UInt8) (B : Nat) (p : Nat) (w : World) (hl : bs.length = l) (hm : l ≤ 1099511627776) (hlc : l ≤ c)
    (hb : Bytes w B A bs) (hp : p + 4 ≤ l) (hi : isB tombBytes bs p = false) :
    Calls Tryd.prog 13 #[.pointer (some ⟨tg, 0, none⟩), .slice A l c, .int .i64 (p : Int)] w fun e w' => e = .returned (.tuple #[.string ⟨#[]⟩, .int .i64 0, .int .i64 3]) ∧ w = w' := by
  have HO := Lib.hid (open_form tombMark A l c bs B p w rfl hl hm hlc hb hp hi)
  clear hi hb hl
  go_enter Tryd.func13, Tryd.ntmps13
  go_wp2_with (go_at_call 25; refine HO.out.mono ?_; rintro e w' ⟨rfl, rfl⟩)
  go_ret3
  exact ⟨rfl, rfl⟩

set_option maxRecDepth 100000 in
set_option maxHeartbeats 2000000 in
theorem stTake_ok (tg : Nat) (A : Option Addr) (l c : Nat) (bs : List UInt8) (B : Nat) (p : Nat) (w : World) (hT : Table w tg) (hl : bs.length = l) (hm : l ≤ 1099511627776) (hlc : l ≤ c)
    (hb : Bytes w B A bs) (hB : B ≤ w.heap.size) (hp : p ≤ l) (hi : p + 4 ≤ l → isB tombBytes bs p = true) :
    Calls Tryd.prog 13 #[.pointer (some ⟨tg, 0, none⟩), .slice A l c, .int .i64 (p : Int)] w fun e w' => e = .returned (stV bs p) ∧ Below w.heap.size w w' := by
  have HO := Lib.hid (open_ok tombMark A l c bs B p w rfl hl hm hlc hb hB hp hi)
  have HT0 := Lib.hid hT
  have HBA := Lib.hid hb
  have HL := Lib.hid hl
  have htl := hT.lt
  have HS0 := Lib.hid (openS_le (bs := bs) (p := p) (by omega))
  have HG0 := Lib.hid (openS_ge bs p)
  have HS1 := Lib.hid (num_le (k := 1) HS0.out)
  have HG1 := Lib.hid (num_ge bs (openS bs p) 1)
  have HS2 := Lib.hid (row_le (k := (stS1 bs p).1) HS1.out)
  have HG2 := Lib.hid (row_ge bs (stS1 bs p).2 (stS1 bs p).1)
  have hn1 : (stS1 bs p).1 < 4294967296 := num_lt1 bs _
  have HRL : Hid ((stS2 bs p).1.length ≤ (stS1 bs p).1) := row_len _ _
  have E1 : Hid ((openS bs p).num bs 1 = stS1 bs p) := rfl
  have E2 : Hid ((stS1 bs p).2.row bs (stS1 bs p).1 = stS2 bs p) := rfl
  have HR : Hid (stR bs p = if chkN bs p (stS2 bs p).2 = 0 then (if rightB (stS2 bs p).1 = true then 0 else 6) else chkN bs p (stS2 bs p).2) := rfl
  have HVG : Hid (stR bs p = 0 → stV bs p = .tuple #[.string ⟨(stS2 bs p).1.toArray⟩, .int .i64 (((stS2 bs p).2.num bs 4).2.p : Int), .int .i64 0]) := stV_good
  have HVB : Hid (stR bs p ≠ 0 → stV bs p = .tuple #[.string ⟨#[]⟩, .int .i64 0, .int .i64 (stR bs p : Nat)]) := stV_bad
  have hcv : ∀ (W : World) (A : Option Addr) (m c' B : Nat) (xs : List UInt8), Bytes W B A xs → xs.length = m → (convert 27 9 (.slice A m c')).run Tryd.prog W = .ok (.string ⟨xs.toArray⟩) W := fun W A m c' B xs h hl => run_string_of 27 9 5 Tryd.underlying27 Tryd.underlying5 Tryd.underlying9 h hl
  have HCV := Lib.hid hcv
  clear hi hb hl hT hcv
  rw [E1.out] at HS1 HG1 HS2
  rw [E2.out] at HS2 HG2
  obtain ⟨n, hn⟩ : ∃ n, (stS1 bs p).1 = n := ⟨_, rfl⟩
  rw [hn] at hn1 HRL E2
  have HN := Lib.hid hn
  clear hn
  go_enter Tryd.func13, Tryd.ntmps13
  go_wp2_with (go_at_call 25; refine HO.out.mono ?_; rintro e w1 ⟨g, rfl, hg, hr, hbw⟩; have HR1 := Lib.hid hr; have HB1 := Lib.hid hbw; have HG := Lib.hid hg; clear hr hbw hg)
  have hgl := HR1.out.lt
  refine (number_st g A l c bs B (openS bs p) 1 1 _ HR1.out HL.out hm (by have := HS0.out; have := HL.out; omega) (by omega) (by omega) rfl (HBA.out.below HB1.out hB)).mono ?_
  rintro e w2 ⟨rfl, hr, ho⟩
  rw [E1.out] at hr ⊢
  rw [HN.out]
  have HR2 := Lib.hid hr
  have HB2 := Lib.hid (only_below ho HB1.out HB1.out.size HG.out)
  have HO2 := Lib.hid ho
  clear hr ho
  go_wp2_with fail
  refine (bytes_st g A l c bs B (stS1 bs p).2 n _ HR2.out HL.out hm hlc (by have := HS1.out; have := HL.out; omega) (HBA.out.below HB2.out hB) (Nat.le_trans hB HB2.out.size)).mono ?_
  rintro e w3 ⟨A', m, k, rfl, hown, hr, ho⟩
  rw [E2.out] at hr hown
  have HR3 := Lib.hid hr
  have HB3 := Lib.hid (only_below ho HB2.out HB2.out.size HG.out)
  have hxl : (stS2 bs p).1.length = m := by have := (OwnT.of hown).1; rwa [byteCells_length] at this
  have HXL := Lib.hid hxl
  have hcv := HCV.out w3 A' m k _ _ (OwnT.of hown).cells hxl
  clear hr ho hown hxl
  obtain ⟨T, hT⟩ : ∃ T : ByteArray, (⟨(stS2 bs p).1.toArray⟩ : ByteArray) = T := ⟨_, rfl⟩
  rw [hT] at hcv HVG
  have HRT : Hid (∀ W, Calls Tryd.prog 20 #[.string T] W fun e w' => e = .returned (.bool (rightB (stS2 bs p).1)) ∧ Below W.heap.size W w') := fun W => by
    have := right_any T W (by rw [← hT]; show (stS2 bs p).1.toArray.size ≤ maxLen; rw [List.size_toArray]; have := HRL.out; unfold maxLen; omega)
    rw [← hT] at this ⊢
    exact this
  have HTT := Lib.hid hT
  clear hT
  have HCK := Lib.hid (check_any tg g A l c bs B p (stS2 bs p).2 _ (HT0.out.below HB3.out htl) HR3.out HL.out hm hlc (by have := HS2.out; have := HL.out; omega) (Nat.le_trans HG0.out (Nat.le_trans HG1.out HG2.out)) (HBA.out.below HB3.out hB) (Nat.le_trans hB HG.out))
  obtain ⟨r, hr⟩ : ∃ r, chkN bs p (stS2 bs p).2 = r := ⟨_, rfl⟩
  rw [hr] at HCK HR
  clear hr
  by_cases hr0 : r = 0
  · subst hr0
    cases hrb : rightB (stS2 bs p).1 with
    | false =>
      rw [hrb] at HRT HR
      have HR6 : Hid (stR bs p = 6) := HR.out
      go_wp2_with (first | (go_at_call 28; refine HCK.out.mono ?_; rintro e w4 ⟨rfl, _, ho⟩; have HB4 := Lib.hid (only_below ho HB3.out HB3.out.size HG.out); clear ho) | (go_at_call 20; refine (HRT.out _).mono ?_; rintro e w5 ⟨rfl, hb⟩; have HB5 := Lib.hid (HB4.out.trans (hb.mono HB4.out.size)); clear hb))
      go_ret3
      exact ⟨by rw [HVB.out (by rw [HR6.out]; decide), HR6.out]; rfl, HB5.out⟩
    | true =>
      rw [hrb] at HRT HR
      have HR6 : Hid (stR bs p = 0) := HR.out
      go_wp2_with (first | (go_at_call 28; refine HCK.out.mono ?_; rintro e w4 ⟨rfl, hr4, ho⟩; have HR4 := Lib.hid hr4; have HB4 := Lib.hid (only_below ho HB3.out HB3.out.size HG.out); clear hr4 ho; have hgl4 := HR4.out.lt) | (go_at_call 20; refine (HRT.out _).mono ?_; rintro e w5 ⟨rfl, hb⟩; have HR5 := Lib.hid (Rd.below HR4.out hb hgl4); have HB5 := Lib.hid (HB4.out.trans (hb.mono HB4.out.size)); clear hb) | (go_at_call 29; refine (at_any g A l c _ _ _ HR5.out).mono ?_; rintro e w' ⟨rfl, rfl⟩))
      go_ret3
      exact ⟨by rw [HVG.out HR6.out]; rfl, HB5.out⟩
  · have HR6 : Hid (stR bs p = r) := by show _ = _; rw [HR.out, if_neg hr0]
    have hne : ((r : Int) != 0) = true := by simp; omega
    go_wp2_with (go_at_call 28; refine HCK.out.mono ?_; rintro e w4 ⟨rfl, _, ho⟩; have HB4 := Lib.hid (only_below ho HB3.out HB3.out.size HG.out); clear ho)
    go_ret3
    exact ⟨by rw [HVB.out (by rw [HR6.out]; exact hr0), HR6.out]; rfl, HB4.out⟩
end Go.Proofs.YtakjpkhholgdbaaDoor
