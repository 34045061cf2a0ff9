/- Layer 24: names compared; where a name stands in a list of members that rises (slices.BinarySearchFunc); a list cloned. -/
import Derived.Test.YtjoifgeljjgflaaDoorMgQ14401
import Derived.Test.YtjoifgeljjgflaaDoorMgQ14422
namespace Go.Proofs.YtjoifgeljjgflaaDoor
open Go.RowKit

def cmpN (a b : ByteArray) : Int := if ltN a b then -1 else if a = b then 0 else 1
theorem cmpN_lt (a b : ByteArray) : decide (cmpN a b < 0) = ltN a b := by
  unfold cmpN
  cases h : ltN a b with
  | true => rfl
  | false => split <;> rename_i h1 <;> first | (cases h1; done) | (split <;> rfl)
theorem cmpN_eq (a b : ByteArray) : (cmpN a b == 0) = decide (a = b) := by
  unfold cmpN
  cases h : ltN a b with
  | true => rw [decide_eq_false (ltN_ne h)]; rfl
  | false =>
    by_cases e : a = b
    · simp [e]
    · simp [e]

set_option maxHeartbeats 400000 in
theorem nan_any (s : ByteArray) (w : World) : Calls Tryd.prog 58 #[.string s] w fun e w' => e = .returned (.bool false) ∧ w = w' := by
  go_enter Tryd.func58, Tryd.ntmps58
  go_wp2
  go_ret
  exact ⟨by simp, rfl⟩
set_option maxHeartbeats 400000 in
theorem cmpS_any (a b : ByteArray) (w : World) : Calls Tryd.prog 50 #[.string a, .string b] w fun e w' => e = .returned (.int .i64 (cmpN a b)) ∧ w = w' := by
  obtain ⟨t, ht⟩ : ∃ t, Op.bytesLess a.toList b.toList = t := ⟨_, rfl⟩
  obtain ⟨q, hq⟩ : ∃ q, (a.toList == b.toList) = q := ⟨_, rfl⟩
  have HR : Hid (cmpN a b = if t then -1 else if q then 0 else 1) := by
    show _ = _
    unfold cmpN ltN
    rw [ht, ← hq, nmEq_dec]
    simp
  have HN := Lib.hid (fun s W => nan_any s W)
  go_enter Tryd.func50, Tryd.ntmps50
  cases t with
  | true =>
    go_wp2_with (go_at_call 58; refine (HN.out _ _).mono ?_; rintro e w' ⟨rfl, rfl⟩)
    go_ret
    exact ⟨by rw [HR.out]; rfl, rfl⟩
  | false =>
    cases q with
    | true =>
      go_wp2_with (go_at_call 58; refine (HN.out _ _).mono ?_; rintro e w' ⟨rfl, rfl⟩)
      go_ret
      exact ⟨by rw [HR.out]; rfl, rfl⟩
    | false =>
      go_wp2_with (go_at_call 58; refine (HN.out _ _).mono ?_; rintro e w' ⟨rfl, rfl⟩)
      go_ret
      exact ⟨by rw [HR.out]; rfl, rfl⟩

set_option maxHeartbeats 1000000 in
theorem place1_any (nm : ByteArray) (at_ fr ar sz su me : Int) (s : ByteArray) (w : World) :
    Calls Tryd.prog 49 #[.agg #[.string nm, .int .i64 at_, .int .i64 fr, .int .i64 ar, .int .i64 sz, .int .u32 su, .int .i64 me], .string s] w fun e w' => e = .returned (.int .i64 (cmpN nm s)) ∧ Below w.heap.size w w' := by
  have HN := Lib.hid (fun W => cmpS_any nm s W)
  have HB0 := fun o => Lib.hid ((Below.refl w.heap.size w).alloc (Nat.le_refl _) o)
  go_enter Tryd.func49, Tryd.ntmps49
  go_wp2_with (go_at_call 50; refine (HN.out _).mono ?_; rintro e w' ⟨rfl, rfl⟩)
  go_ret
  exact ⟨rfl, (HB0 _).out⟩

abbrev RisM (ms : List LM) : Prop := Ris LM.nm ms

set_option maxRecDepth 100000 in
set_option maxHeartbeats 4000000 in
/-- slices.BinarySearchFunc of a list that rises. -/
theorem bsF_any (A : Option Addr) (l c : Nat) (ms : List LM) (s : ByteArray) (B : Nat) (w : World) (hl : ms.length = l) (hm : l ≤ 1099511627776) (hr : RisM ms) (hb : Cells w B A (ms.map LM.cells).flatten) (hB : B ≤ w.heap.size) :
    Calls Tryd.prog 48 #[.slice A l c, .string s, .func (.func 49) #[] #[]] w fun e w' => e = .returned (.tuple #[.int .i64 (posK LM.nm ms s : Nat), .bool (hasK LM.nm ms s)]) ∧ Below w.heap.size w w' := by
  have HC := Lib.hid hb
  have HL := Lib.hid hl
  have HFL := Lib.hid (mems_len ms)
  have HB := Lib.hid hB
  have HR := Lib.hid hr
  have HP := Lib.hid (posK_le (k := LM.nm) ms s)
  have HN := Lib.hid (fun nm a b c d e f W => place1_any nm a b c d e f s W)
  obtain ⟨p, hp⟩ : ∃ p, posK LM.nm ms s = p := ⟨_, rfl⟩
  have HPP := Lib.hid hp
  rw [hp] at HP ⊢
  clear hb hl hB hr hp
  go_enter Tryd.func48, Tryd.ntmps48
  go_wp2
  go_loopg [9, 10, 11] l (fun gk vi vj vh wr => ∃ i j : Nat, j = i + gk ∧ i ≤ p ∧ p ≤ j ∧ j ≤ l ∧ vi = .int .i64 i ∧ vj = .int .i64 j ∧ Below w.heap.size w wr)
  case atStart => exact ⟨0, l, by omega, by omega, by have := HP.out; have := HL.out; omega, Nat.le_refl _, rfl, rfl, Below.refl _ _⟩
  case round =>
    obtain ⟨i, j, hj, h1, h2, h3, rfl, rfl, hbel⟩ := hrel
    have HBL := Lib.hid hbel
    clear hbel
    by_cases h : i < j
    · obtain ⟨h', hh'⟩ : ∃ h', (i + j) / 2 = h' := ⟨_, rfl⟩
      have hlo : i ≤ h' := by omega
      have hhi : h' < j := by omega
      have hhl : h' < l := by omega
      obtain ⟨m, hx⟩ : ∃ x, ms[h']? = some x := ⟨_, List.getElem?_eq_getElem (by have := HL.out; omega)⟩
      obtain ⟨b, o, rfl, hbB, hc⟩ := HC.out (by rw [HFL.out, HL.out]; omega)
      obtain ⟨c0, c1, c2, c3, c4, c5, c6⟩ := mem_at hbB hc (hBw_below HBL.out HB.out) hx
      have HX := Lib.hid hx
      have HI := Lib.hid (posK_iff HR.out s h' m hx)
      rw [HPP.out] at HI
      have hq : ((i : Int) + (j : Int)) / 2 = (h' : Int) := by omega
      have hij : (i : Int) + (j : Int) < 9223372036854775808 := by omega
      have HJ := Lib.hid (show j = i + gk ∧ i ≤ p ∧ p ≤ j ∧ j ≤ l ∧ i ≤ h' ∧ h' < j from ⟨hj, h1, h2, h3, hlo, hhi⟩)
      obtain ⟨t, ht⟩ : ∃ t, ltN m.nm s = t := ⟨_, rfl⟩
      rw [ht] at HI
      have HCM : Hid (∀ W, Calls Tryd.prog 49 #[.agg #[.string m.nm, .int .i64 m.at_, .int .i64 m.fr, .int .i64 m.ar, .int .i64 m.sz, .int .u32 m.su, .int .i64 m.me], .string s] W fun e w' => ∃ r, e = .returned (.int .i64 r) ∧ decide (r < 0) = t ∧ Below W.heap.size W w') := fun W =>
        (HN.out m.nm m.at_ m.fr m.ar m.sz m.su m.me W).mono fun _ _ ⟨h1, h2⟩ => ⟨_, h1, by rw [cmpN_lt]; exact ht, h2⟩
      clear hc hx hj h1 h2 h3 hh' hlo hhi ht
      cases t with
      | true =>
        go_wp2_with (go_at_call 49; refine (HCM.out _).mono ?_; rintro e w' ⟨r, rfl, hr0, hbel⟩; have HBL1 := Lib.hid (HBL.out.trans (hbel.mono HBL.out.size)); clear hbel)
        go_roundg (j - (h' + 1))
        case measure => have := HJ.out; omega
        case rel => have h0 := HJ.out; have h1 := HI.out.1 trivial; exact ⟨h' + 1, j, by omega, by omega, by omega, by omega, by go_num, rfl, HBL1.out⟩
      | false =>
        go_wp2_with (go_at_call 49; refine (HCM.out _).mono ?_; rintro e w' ⟨r, rfl, hr0, hbel⟩; have HBL1 := Lib.hid (HBL.out.trans (hbel.mono HBL.out.size)); clear hbel)
        go_roundg (h' - i)
        case measure => have := HJ.out; omega
        case rel =>
          have h0 := HJ.out
          have h1 : ¬ h' < p := fun hh => by have := HI.out.2 hh; cases this
          exact ⟨i, h', by omega, by omega, by omega, by omega, rfl, rfl, HBL1.out⟩
    · obtain rfl : i = p := by omega
      obtain rfl : j = i := by omega
      by_cases hjl : j < l
      · obtain ⟨m, hx⟩ : ∃ x, ms[j]? = some x := ⟨_, List.getElem?_eq_getElem (by have := HL.out; omega)⟩
        obtain ⟨b, o, rfl, hbB, hc⟩ := HC.out (by rw [HFL.out, HL.out]; omega)
        obtain ⟨c0, c1, c2, c3, c4, c5, c6⟩ := mem_at hbB hc (hBw_below HBL.out HB.out) hx
        have HH : Hid (hasK LM.nm ms s = decide (m.nm = s)) := hasK_pos HR.out s m (by rw [HPP.out]; exact hx)
        have HCM : Hid (∀ W, Calls Tryd.prog 49 #[.agg #[.string m.nm, .int .i64 m.at_, .int .i64 m.fr, .int .i64 m.ar, .int .i64 m.sz, .int .u32 m.su, .int .i64 m.me], .string s] W fun e w' => ∃ r, e = .returned (.int .i64 r) ∧ (r == 0) = decide (m.nm = s) ∧ Below W.heap.size W w') := fun W =>
          (HN.out m.nm m.at_ m.fr m.ar m.sz m.su m.me W).mono fun _ _ ⟨h1, h2⟩ => ⟨_, h1, cmpN_eq _ _, h2⟩
        obtain ⟨t, ht⟩ : ∃ t, decide (m.nm = s) = t := ⟨_, rfl⟩
        rw [ht] at HCM HH
        clear hc hx ht h1 h2 h3 hj h
        go_wp2_with (go_at_call 49; refine (HCM.out _).mono ?_; rintro e w' ⟨r, rfl, hr0, hbel⟩; have HBL1 := Lib.hid (HBL.out.trans (hbel.mono HBL.out.size)); clear hbel)
        go_ret2
        exact ⟨by rw [HH.out]; simp, HBL1.out⟩
      · have HH : Hid (hasK LM.nm ms s = false) := hasK_end HR.out (by rw [HPP.out, HL.out]; omega)
        obtain rfl : j = l := by omega
        clear h1 h2 h3 hj h hjl
        go_wp2
        go_ret2
        exact ⟨by rw [HH.out]; rfl, HBL.out⟩
end Go.Proofs.YtjoifgeljjgflaaDoor
/- Layer 19: members held against each other. -/
namespace Go.Proofs.YtjoifgeljjgflaaDoor
open Go.RowKit

/-- Are members alike? -/
def eqM (a b : LM) : Bool := a.nm.toList == b.nm.toList && a.at_ == b.at_ && a.fr == b.fr && a.ar == b.ar && a.sz == b.sz && a.su == b.su && a.me == b.me
theorem run_eqM (a b : LM) (w : World) : (binOp .eql 32 (.agg #[.string a.nm, .int .i64 a.at_, .int .i64 a.fr, .int .i64 a.ar, .int .i64 a.sz, .int .u32 a.su, .int .i64 a.me]) (.agg #[.string b.nm, .int .i64 b.at_, .int .i64 b.fr, .int .i64 b.ar, .int .i64 b.sz, .int .u32 b.su, .int .i64 b.me])).run Tryd.prog w = .ok (.bool (eqM a b)) w := by
  unfold eqM
  go_simp
  by_cases h1 : a.nm.toList = b.nm.toList
  · by_cases h2 : a.at_ = b.at_
    · by_cases h3 : a.fr = b.fr
      · by_cases h4 : a.ar = b.ar
        · by_cases h5 : a.sz = b.sz
          · by_cases h6 : a.su = b.su
            · by_cases h7 : a.me = b.me
              all_goals simp [h1, h2, h3, h4, h5, h6, h7]
            · simp [h1, h2, h3, h4, h5, h6]
          · simp [h1, h2, h3, h4, h5]
        · simp [h1, h2, h3, h4]
      · simp [h1, h2, h3]
    · simp [h1, h2]
  · simp [h1]
end Go.Proofs.YtjoifgeljjgflaaDoor
