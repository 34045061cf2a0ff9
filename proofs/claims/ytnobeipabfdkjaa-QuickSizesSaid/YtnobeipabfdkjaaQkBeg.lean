/- Layer 34: the reference's Begins; which code bits begin with, plainly. -/
import Derived.Test.YtnobeipabfdkjaaQkTkP
import Derived.Test.YtnobeipabfdkjaaBitsRe
import Derived.Test.YtnobeipabfdkjaaCrRef
namespace Go.Proofs.Ytnobeipabfdkjaa
open Go.RowKit Go.Maps BitsP

/-- Two rows of bits begin alike, as far as both go. -/
def begB (a b : List Bool) : Bool := decide (a.take b.length = b.take a.length)
theorem begB_step {a b : List Bool} {k : Nat} {x y : Bool} (hx : a[k]? = some x) (hy : b[k]? = some y) (h : a.take k = b.take k) : (x = y → a.take (k + 1) = b.take (k + 1)) ∧ (x ≠ y → begB a b = false) := by
  constructor
  · rintro rfl
    rw [take_succ' hx, take_succ' hy, h]
  · intro hne
    apply decide_eq_false
    intro e
    have ha := (List.getElem?_eq_some_iff.1 hx).1
    have hb := (List.getElem?_eq_some_iff.1 hy).1
    have e2 := congrArg (fun L : List Bool => L[k]?) e
    simp only [List.getElem?_take] at e2
    rw [if_pos hb, if_pos ha, hx, hy] at e2
    injection e2 with e2
    exact hne e2
theorem begB_end {a b : List Bool} {k : Nat} (h : a.take k = b.take k) (hk : k = min a.length b.length) : begB a b = true := by
  apply decide_eq_true
  rcases Nat.le_total a.length b.length with hle | hle
  · rw [List.take_of_length_le hle]
    rw [Nat.min_eq_left hle] at hk
    subst hk
    rw [← h, List.take_length]
  · rw [List.take_of_length_le (l := b) hle]
    rw [Nat.min_eq_right hle] at hk
    subst hk
    rw [h, List.take_length]
theorem bit_val {L : List Bool} {i : Nat} {b : Bool} (h : L[i]? = some b) : (byteCells (bitBytes L))[i]? = some (.int .u8 ((bit b : Nat) : Int)) := by
  rw [byteCells_get (bitBytes_get h)]
  cases b <;> rfl
set_option maxRecDepth 100000 in
set_option maxHeartbeats 400000 in
theorem refBegins_any (A1 A2 : Option Addr) (la lb c1 c2 B1 B2 : Nat) (a b : List Bool) (w : World) (ha : a.length = la) (hb : b.length = lb) (hma : la ≤ 1099511627776) (hmb : lb ≤ 1099511627776) (h1 : Bytes w B1 A1 (bitBytes a)) (h2 : Bytes w B2 A2 (bitBytes b)) :
    Calls Try.prog 32 #[.slice A1 la c1, .slice A2 lb c2] w fun e w' => e = .returned (.bool (begB a b)) ∧ ∃ n, w' = w.drewN n := by
  have HA := Lib.hid ha
  have HB := Lib.hid hb
  have H1 := Lib.hid h1
  have H2 := Lib.hid h2
  have HE := Lib.hid (fun k => begB_end (a := a) (b := b) (k := k))
  have HS := Lib.hid (fun k x y => begB_step (a := a) (b := b) (k := k) (x := x) (y := y))
  obtain ⟨r, hr⟩ : ∃ r, begB a b = r := ⟨_, rfl⟩
  rw [hr] at HE HS ⊢
  clear ha hb h1 h2 hr
  go_enter Try.func32, Try.ntmps32
  go_wp2
  go_loopg [5] (min la lb) (fun gk i wr => ∃ k nd : Nat, k + gk = min la lb ∧ i = .int .i64 (k : Int) ∧ wr = w.drewN nd ∧ a.take k = b.take k)
  case atStart => exact ⟨0, 0, by omega, rfl, rfl, rfl⟩
  case round =>
    obtain ⟨k, nd, hk, rfl, rfl, ht⟩ := hrel
    have HT := Lib.hid ht
    clear ht
    by_cases hkl : k < la
    · have t1 : decide (k < la) = true := by simp; omega
      by_cases hkb : k < lb
      · have t2 : decide (k < lb) = true := by simp; omega
        obtain ⟨x, hx⟩ : ∃ x, a[k]? = some x := ⟨_, List.getElem?_eq_getElem (by rw [HA.out]; exact hkl)⟩
        obtain ⟨y, hy⟩ : ∃ y, b[k]? = some y := ⟨_, List.getElem?_eq_getElem (by rw [HB.out]; exact hkb)⟩
        have hs := HS.out k x y hx hy HT.out
        obtain ⟨b1, o1, rfl, _, hc1⟩ := H1.out (by rw [byteCells_length, bitBytes_length, HA.out]; omega)
        obtain ⟨b2, o2, rfl, _, hc2⟩ := H2.out (by rw [byteCells_length, bitBytes_length, HB.out]; omega)
        have x1 : (w.drewN nd).cell? ⟨b1, o1 + k, none⟩ = some (.int .u8 ((bit x : Nat) : Int)) := hc1 k _ (bit_val hx)
        have x2 : (w.drewN nd).cell? ⟨b2, o2 + k, none⟩ = some (.int .u8 ((bit y : Nat) : Int)) := hc2 k _ (bit_val hy)
        clear hc1 hc2 hx hy
        obtain ⟨V, hV⟩ : ∃ V, w.drewN nd = V := ⟨_, rfl⟩
        have HV : Hid (∀ j, ∃ m, V.drewN j = w.drewN m) := fun j => ⟨nd + j, by rw [← hV]; simp⟩
        rw [hV] at x1 x2 ⊢
        clear hV
        by_cases hxy : x = y
        · have HT2 := Lib.hid (hs.1 hxy)
          have hq : ((bit x : Nat) : Int) = ((bit y : Nat) : Int) := by rw [hxy]
          rw [hq] at x1
          obtain ⟨q, hq2⟩ : ∃ q, bit y = q := ⟨_, rfl⟩
          rw [hq2] at x1 x2
          clear hs hxy hq hq2
          go_upto_region 4 with fail
          go_region
          go_wp2
          go_roundg (gk - 1)
          case measure => omega
          case rel =>
            obtain ⟨m, hm⟩ := HV.out 1
            exact ⟨k + 1, m, by omega, by go_num, hm, HT2.out⟩
        · have hrf := hs.2 hxy
          have hne : bit x ≠ bit y := fun e => hxy (by revert e; cases x <;> cases y <;> simp [bit])
          have t3 : (bit x != bit y) = true := by simp [hne]
          have t3' : (((bit x : Nat) : Int) != ((bit y : Nat) : Int)) = true := by simp; omega
          obtain ⟨q1, hq1⟩ : ∃ q, bit x = q := ⟨_, rfl⟩
          obtain ⟨q2, hq2⟩ : ∃ q, bit y = q := ⟨_, rfl⟩
          rw [hq1] at x1 t3 t3'
          rw [hq2] at x2 t3 t3'
          subst hrf
          clear hs hxy hq1 hq2 hne
          go_upto_region 4 with fail
          go_region
          go_wp2
          go_ret
          obtain ⟨m, hm⟩ := HV.out 1
          exact ⟨rfl, m, hm⟩
      · have t2 : decide (k < lb) = false := by simp; omega
        have hre := HE.out k HT.out (by rw [HA.out, HB.out]; omega)
        subst hre
        go_wp2
        go_ret
        exact ⟨rfl, _, rfl⟩
    · have t1 : decide (k < la) = false := by simp; omega
      have hre := HE.out k HT.out (by rw [HA.out, HB.out]; omega)
      subst hre
      go_wp2
      go_ret
      exact ⟨rfl, _, rfl⟩
set_option maxHeartbeats 400000 in
theorem refBits_zero (v : Int) (w : World) : Calls Try.prog 33 #[.int .i64 v, .int .i64 0] w fun e w' => e = .returned (.slice none 0 0) ∧ w = w' := by
  go_enter Try.func33, Try.ntmps33
  go_wp2
  go_loopg [0, 5, 6] 0 (fun gk nk vk i wr => gk = 0 ∧ i = .int .i64 0 ∧ vk = .slice none 0 0 ∧ nk = .int .i64 v ∧ wr = w)
  case atStart => exact ⟨rfl, rfl, rfl, rfl, rfl⟩
  case round =>
    obtain ⟨rfl, rfl, rfl, rfl, rfl⟩ := hrel
    go_wp2
    go_ret
    exact ⟨rfl, rfl⟩
theorem hit_code {zs : List Int} (hr : caR zs = true) {s n v k : Nat} (hy : Sym zs s n v k) {U : List Bool} : HitZ U n v ↔ (padZ U).take n = codeB v n := by
  constructor
  · intro h
    have hl : ((padZ U).take n).length = (codeB v n).length := by rw [take_pad_len hy.few, codeB_len]
    exact num_inj hl ((hit_num hr hy).2 h)
  · intro h
    show hiN _ = _
    rw [h, hiN_code (hy.lt hr)]
theorem beg_fit {zs : List Int} (hr : caR zs = true) {s n v k : Nat} (hy : Sym zs s n v k) {U : List Bool} (hn : n ≤ U.length) : begB (codeB v n) U = true ↔ HitZ U n v := by
  rw [hit_code hr hy, pad_take hn]
  unfold begB
  rw [decide_eq_true_eq, codeB_len, List.take_of_length_le (by rw [codeB_len]; exact hn)]
  exact eq_comm
theorem beg_long {zs : List Int} (hr : caR zs = true) {s n v k : Nat} (hy : Sym zs s n v k) {U : List Bool} (hn : U.length < n) (h : HitZ U n v) : begB (codeB v n) U = true := by
  have e := (hit_code hr hy).1 h
  apply decide_eq_true
  rw [← e, take_pad_len hy.few, List.take_take, Nat.min_eq_left (by omega), pad_take (Nat.le_refl _), List.take_length, List.take_of_length_le (by omega)]
theorem max_one {zs : List Int} (hr : caR zs = true) {m : Nat} (hm : isMax zs (m : Int)) : 1 ≤ m := by
  have hw : 0 < wsum zs := by
    have hc := hr
    rw [caR_r7] at hc
    simp only [Bool.and_eq_true, Bool.or_eq_true, decide_eq_true_eq] at hc
    rcases hc.2 with h | h
    · exact alone_pos hr h
    · omega
  obtain ⟨s, n, v, k, hy, _⟩ := cover (zs := zs) (x := 0) _ (Nat.le_refl _) (by rw [osum_full hr]; exact hw)
  have := hy.at_le hm
  have := hy.one
  omega
/-- No code that fits is what bits begin with; a longer one is, or there are none. -/
theorem takeR_two {zs : List Int} (hr : caR zs = true) {m : Nat} (hm : isMax zs (m : Int)) {U : List Bool} (hno : ∀ s n v k, Sym zs s n v k → n ≤ U.length → begB (codeB v n) U = false) (h : U.length = 0 ∨ ∃ s n v k, Sym zs s n v k ∧ U.length < n) : TakeR zs m U 0 2 0 := by
  refine .inr ⟨rfl, rfl, fun n h1 h2 h3 s v k hy e => ?_, ?_⟩
  · have hh : HitZ U n v := by show hiN _ = _; rw [pad_take h3]; exact e
    have := hno s n v k hy h3
    rw [(beg_fit hr hy h3).2 hh] at this
    cases this
  · rw [if_pos]
    rcases h with h | ⟨s, n, v, k, hy, hn⟩
    · have := max_one hr hm; omega
    · have := hy.at_le hm; omega
theorem takeR_13 {zs : List Int} (hr : caR zs = true) {m : Nat} (hm : isMax zs (m : Int)) {U : List Bool} (hno : ∀ s n v k, Sym zs s n v k → begB (codeB v n) U = false) : TakeR zs m U 0 13 0 :=
  takeR_no hr hm fun s n v k hy hh => by
    have h := hno s n v k hy
    rcases Nat.lt_or_ge U.length n with h1 | h1
    · rw [beg_long hr hy h1 hh] at h; cases h
    · rw [(beg_fit hr hy h1).2 hh] at h; cases h
end Go.Proofs.Ytnobeipabfdkjaa
