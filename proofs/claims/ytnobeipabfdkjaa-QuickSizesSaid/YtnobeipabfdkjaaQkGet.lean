/- Layer 34: what a table tells: Width, Row, Size. -/
import Derived.Test.YtnobeipabfdkjaaQkNew
namespace Go.Proofs.Ytnobeipabfdkjaa
open Go.RowKit Go.Maps

def sumL (left : Lit → Bool) : DataW Unit → Nat
  | .map es => ((es.filter fun p => left p.1).map fun p => slLen p.2).sum
  | _ => 0
theorem sumL_all {es : List (Lit × DataW Unit)} (hk : ∀ p ∈ es, WideAt.IsKeyLit p.1) : sumL (has (.map es)) (.map es) = sumD (.map es) := by
  unfold sumL sumD
  dsimp only
  rw [List.filter_eq_self.2]
  intro p hp
  exact List.any_eq_true.2 ⟨p, hp, WideAt.sameKey_self (hk p hp)⟩
theorem sumL_none {left : Lit → Bool} (h : ∀ kl, left kl = false) (D : DataW Unit) : sumL left D = 0 := by
  unfold sumL
  split
  · rw [List.filter_eq_nil_iff.2 (fun p _ => by rw [h]; simp)]; rfl
  · rfl
theorem sumL_step {left : Lit → Bool} {kl : Lit} {d : DataW Unit} (hl : left kl = true) : ∀ es : List (Lit × DataW Unit), es.Pairwise (fun p q => p.1 ≠ q.1) → (∀ p ∈ es, WideAt.IsKeyLit p.1) → (∀ zd, (DataW.map es).atKey kl zd = d) →
    sumL left (.map es) = slLen d + sumL (fun z => left z && !z.sameKey kl) (.map es)
  | [], _, _, h => by
    have h1 := h (.lit (.bool true))
    have h2 := h (.lit (.bool false))
    have e1 : (DataW.map ([] : List (Lit × DataW Unit))).atKey kl (.lit (.bool true)) = .lit (.bool true) := rfl
    have e2 : (DataW.map ([] : List (Lit × DataW Unit))).atKey kl (.lit (.bool false)) = .lit (.bool false) := rfl
    rw [e1] at h1
    rw [e2] at h2
    rw [← h1] at h2
    injection h2 with h2
    injection h2 with h2
    exact absurd h2 (by decide)
  | p :: r, hp, hk, h => by
    rw [List.pairwise_cons] at hp
    unfold sumL
    dsimp only
    by_cases hpk : p.1.sameKey kl = true
    · have e := WideAt.sameKey_eq hpk
      have hd : p.2 = d := by
        have := h .nil
        unfold DataW.atKey at this
        simp only [List.find?_cons, hpk] at this
        exact this
      have hr : ∀ q ∈ r, q.1.sameKey kl = false := fun q hq => by
        cases hh : q.1.sameKey kl with
        | false => rfl
        | true => exact absurd (e.trans (WideAt.sameKey_eq hh).symm) (hp.1 q hq)
      rw [List.filter_cons, if_pos (by rw [e]; exact hl), List.filter_cons, if_neg (by rw [hpk]; simp), List.map_cons, List.sum_cons, hd]
      congr 3
      apply List.filter_congr
      intro q hq
      rw [hr q hq]
      simp
    · have hpk' : p.1.sameKey kl = false := by simpa using hpk
      have ih := sumL_step hl r hp.2 (fun q hq => hk q (List.mem_cons_of_mem _ hq)) (fun zd => by
        have := h zd
        unfold DataW.atKey at this ⊢
        simp only [List.find?_cons, hpk'] at this
        exact this)
      unfold sumL at ih
      dsimp only at ih
      rw [List.filter_cons, List.filter_cons]
      cases hl2 : left p.1 with
      | false =>
        rw [if_neg (by simp), if_neg (by simp)]
        exact ih
      | true =>
        rw [if_pos rfl, if_pos (by rw [hpk']; rfl), List.map_cons, List.sum_cons, List.map_cons, List.sum_cons, ih]
        omega
set_option maxHeartbeats 400000 in
theorem qwidth_any (tb g m W cnt base : Nat) (q : QS) (blk : Nat → Nat) (D : DataW Unit) (w : World) (h : LT w tb g m W q blk D cnt base) :
    Calls Try.prog 15 #[.pointer (some ⟨tb, 0, none⟩)] w fun e w' => e = .returned (.int .i64 (W : Int)) ∧ w = w' := by
  have t0 := cell_of_row w tb 0 _ _ _ h.tab
  clear h
  go_enter Try.func15, Try.ntmps15
  go_wp2
  go_ret
  exact ⟨rfl, rfl⟩
set_option maxRecDepth 100000 in
set_option maxHeartbeats 400000 in
theorem qrow_in (tb g m W cnt base x : Nat) (q : QS) (blk : Nat → Nat) (D : DataW Unit) (r : R3) (w : World) (h : LT w tb g m W q blk D cnt base) (hW : W ≤ 15) (hr : q.rows[x]? = some r) :
    Calls Try.prog 16 #[.pointer (some ⟨tb, 0, none⟩), .int .i64 (x : Int)] w fun e w' => e = .returned (.agg #[.int .i64 (r.1 : Int), .int .i64 (r.2.1 : Int), .bool r.2.2]) ∧ Below w.heap.size w w' := by
  obtain ⟨s, n, d⟩ := r
  have hxN : x < 2 ^ W := by rw [← h.len]; exact (List.getElem?_eq_some_iff.1 hr).1
  have hp : (2 : Nat) ^ W ≤ 32768 := Nat.le_trans (Nat.pow_le_pow_right (by decide) hW) (by decide)
  obtain ⟨W1, hW1⟩ : ∃ W1, w.alloc (.cells #[.int .i64 0, .int .i64 0, .bool false] 35) = W1 := ⟨_, rfl⟩
  have HL1 : Hid (LT W1 tb g m W q blk D cnt base) := by show LT _ _ _ _ _ _ _ _ _ _; rw [← hW1]; exact h.alloc _
  have HB1 : Hid (Below w.heap.size w W1) := by show Below _ _ _; rw [← hW1]; exact (Below.refl _ w).alloc (Nat.le_refl _) _
  have hx := heap_alloc_new w (.cells #[.int .i64 0, .int .i64 0, .bool false] 35)
  rw [hW1] at hx
  have x0 := cell_of_row W1 w.heap.size 0 _ _ _ hx
  have x1 := cell_of_row W1 w.heap.size 1 _ _ _ hx
  have x2 := cell_of_row W1 w.heap.size 2 _ _ _ hx
  have f0 := frozen_of_row W1 w.heap.size 0 _ _ hx
  have f1 := frozen_of_row W1 w.heap.size 1 _ _ hx
  have f2 := frozen_of_row W1 w.heap.size 2 _ _ hx
  have t1 := cell_of_row W1 tb 1 _ _ _ HL1.out.tab
  obtain ⟨y0, y1, y2⟩ := rb_cells HL1.out.rows hr
  dsimp only at y0 y1 y2
  obtain ⟨N, hN⟩ : ∃ N, 2 ^ W = N := ⟨_, rfl⟩
  rw [hN] at t1 hxN hp
  clear h hr hx hN
  go_enter Try.func16, Try.ntmps16
  go_wp2
  refine bodyPost_ret (v := .agg #[.int .i64 (s : Int), .int .i64 (n : Int), .bool d]) (by simp [results, Try.results16, x0, x1, x2, go_sem]) rfl ⟨rfl, ?_⟩
  exact (((HB1.out.setCell (p := ⟨w.heap.size, 0, none⟩) (Nat.le_refl _) _).setCell (p := ⟨w.heap.size, 1, none⟩) (Nat.le_refl _) _).setCell (p := ⟨w.heap.size, 2, none⟩) (Nat.le_refl _) _)
def mkS : Option Nat × Nat → Value
  | (some b, n) => .slice (some ⟨b, 0, none⟩) n n
  | (none, _) => .slice none 0 0
theorem mkS_inv (v : Value) (y : DataW Unit × List MemPlace) (h : slR v = some y) : ∃ c, v = mkS c := by
  unfold slR at h
  split at h
  · exact ⟨(none, 0), rfl⟩
  · split at h
    · rename_i b n c hc
      subst hc
      exact ⟨(some b, n), rfl⟩
    · simp at h
  · simp at h
def mkN : Option Nat × Nat → Nat
  | (some _, n) => n
  | (none, _) => 0
theorem mkS_len {c : Option Nat × Nat} {y : DataW Unit × List MemPlace} (h : slR (mkS c) = some y) : slLen y.1 = mkN c := by
  obtain ⟨b, n⟩ := c
  cases b with
  | none =>
    have : y = (.nil, []) := by simpa [slR, mkS] using h.symm
    rw [this]; rfl
  | some b =>
    have : y = (slD b n, []) := by rw [mkS, slR_mk] at h; injection h with h; exact h.symm
    rw [this]
    exact slLen_mk b n
set_option maxRecDepth 100000 in
set_option maxHeartbeats 400000 in
theorem qsize_any (tb g m W cnt base : Nat) (q : QS) (blk : Nat → Nat) (D : DataW Unit) (w : World) (h : LT w tb g m W q blk D cnt base) (hW : W ≤ 15) (hs : sumD D ≤ 1000000000) :
    Calls Try.prog 18 #[.pointer (some ⟨tb, 0, none⟩)] w fun e w' => e = .returned (.int .i64 ((2 ^ W + sumD D : Nat) : Int)) ∧ Below w.heap.size w w' := by
  have t1 := cell_of_row w tb 1 _ _ _ h.tab
  have t2 := cell_of_row w tb 2 _ _ _ h.tab
  have hp : (2 : Nat) ^ W ≤ 32768 := Nat.le_trans (Nat.pow_le_pow_right (by decide) hW) (by decide)
  have HOWN := Lib.hid h.map
  obtain ⟨es, hD, hpw, hkl⟩ := h.map.entries intKeyed
  have HALL : Hid (sumL (has D) D = sumD D) := by show _ = _; rw [hD]; exact sumL_all hkl
  have HSTEP : Hid (∀ (left : Lit → Bool) kl d, left kl = true → (∀ zd, D.atKey kl zd = d) → sumL left D = slLen d + sumL (fun z => left z && !z.sameKey kl) D) := fun left kl d hl hat => by
    rw [hD] at hat ⊢
    exact sumL_step hl es hpw hkl hat
  obtain ⟨N, hN⟩ : ∃ N, 2 ^ W = N := ⟨_, rfl⟩
  rw [hN] at t1 hp ⊢
  clear h hD hpw hkl hN
  go_enter Try.func18, Try.ntmps18
  go_wp2_with (first
    | (at_range; refine wpList_range_own _ rfl _ 58 rfl 3 57 intKeyed Try.underlying58 _ m cnt D rfl HOWN.out ?_; intro w0 hrg0 hg0 hs0)
    | go_in)
  go_frame
  have HB0 : Hid (Below w.heap.size w w0) := (Below.refl w.heap.size w).grown hg0 (Nat.le_refl _) (fun k hk => by simp at hk)
  go_loopw [3] (fun s3 wr => ∃ (left : Lit → Bool) (ct T : Nat), wr.ranges Try.prog 3 slR m w.heap.size cnt D left ct ∧ s3 = .int .i64 (T : Int) ∧ T + sumL left D = N + sumD D ∧ Below w.heap.size w wr ∧ w.heap.size < wr.heap.size)
    (fun _ wr => wr.rangeLeft m w.heap.size)
  case atStart => exact ⟨_, _, N, hrg0, rfl, by rw [HALL.out], HB0.out, by omega⟩
  case round =>
    obtain ⟨left, ct, T, hrg, rfl, hT, hbw, hsz⟩ := hrel
    have HBW := Lib.hid hbw
    clear hbw HB0 hrg0 hg0 hs0
    go_wp2_with (first
      | (at_next; refine wpList_next_ranges _ rfl _ rfl 3 intKeyed slR (Value.int .i64) mkS (fun key kl hkey => by obtain ⟨x, rfl, _⟩ := Maps.keyOf_int_inv Try.underlying3 hkey; exact ⟨x, rfl⟩) mkS_inv m w.heap.size cnt D _ _ rfl hrg ?_ ?_)
      | go_in)
    · intro _ hl0
      have hTT : T = N + sumD D := by rw [sumL_none hl0] at hT; omega
      go_wp2
      go_ret
      exact ⟨by rw [hTT]; rfl, HBW.out⟩
    · intro x c1 c2 kl y1 y2 w1 ct1 hkey hlk hv hat hrg1 hlt hg1 hs1 hen
      have hst := HSTEP.out left kl y1 hlk hat
      have hlen : slLen y1 = mkN (c1, c2) := mkS_len (y := (y1, y2)) hv
      have HBW1 : Hid (Below w.heap.size w w1) := HBW.out.grown hg1 HBW.out.size (fun k hk => by injection hk; omega)
      have HHL := Lib.hid hrg
      cases c1 with
      | none =>
        have e0 : slLen y1 = 0 := hlen
        have hTT : T + sumL (fun z => left z && !z.sameKey kl) D = N + sumD D := by omega
        clear hT hst hlen
        change (Instr.entry _).run _ _ = .ok (.tuple #[_, .slice none 0 0]) _ at hen
        go_wp2
        go_roundw
        case rel => exact ⟨_, ct1, T, hrg1, rfl, hTT, HBW1.out, by omega⟩
        case measure => rw [hrg1.left_eq, HHL.out.left_eq]; exact hlt
      | some b =>
        have e0 : slLen y1 = c2 := hlen
        have hc2 : c2 ≤ 2000000000 := by omega
        have hT2 : T ≤ 2000000000 := by omega
        have hTT : (T + c2) + sumL (fun z => left z && !z.sameKey kl) D = N + sumD D := by omega
        clear hT hst hlen
        change (Instr.entry _).run _ _ = .ok (.tuple #[_, .slice (some ⟨b, 0, none⟩) c2 c2]) _ at hen
        go_wp2
        go_roundw
        case rel => exact ⟨_, ct1, T + c2, hrg1, by go_num, hTT, HBW1.out, by omega⟩
        case measure => rw [hrg1.left_eq, HHL.out.left_eq]; exact hlt
end Go.Proofs.Ytnobeipabfdkjaa
