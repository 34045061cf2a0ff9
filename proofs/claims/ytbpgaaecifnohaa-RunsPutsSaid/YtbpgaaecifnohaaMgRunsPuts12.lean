/- Layer 7: the rows, as their iterator tells them. -/
import Derived.Test.YtbpgaaecifnohaaMgRunsPuts10
import Derived.Test.YtbpgaaecifnohaaMgRunsPuts11
import Derived.RangeFuncBox
import Derived.Test.YtbpgaaecifnohaaMgRunsPuts00
namespace Go.Proofs.Ytbpgaaecifnohaa
open Go.RowKit Go.Shelf
attribute [local go_sem] Oper.semAt_some

/-- A box that holds a slice of elements. -/
def SlB (W : World) (B : Nat) : Prop := ∃ A n c, Boxed W B 89 (.slice A n c)
/-- What a round keeps that sets the slice in a box. -/
structure KpO (n B : Nat) (W W' : World) : Prop where
  low : Below n W W'
  cells : ∀ k o, W.heap[k]? = some o → o.isCells = true → k ≠ B → W'.heap[k]? = some o
  box : SlB W B → SlB W' B
  size : W.heap.size ≤ W'.heap.size
theorem KpO.trans {n B : Nat} {X Y Z : World} (h : KpO n B X Y) (k : KpO n B Y Z) : KpO n B X Z :=
  ⟨h.low.trans k.low, fun j o hj ho hB => k.cells j o (h.cells j o hj ho hB) ho hB, fun hb => k.box (h.box hb), Nat.le_trans h.size k.size⟩
theorem KpO.putObj {n B : Nat} (W : World) (l : Nat) (o o' : Obj) (hn : n ≤ l) (hB : B < l) (ho : W.heap[l]? = some o) (hc : o.isCells = false) : KpO n B W (W.putObj l o') := by
  refine ⟨(Below.refl n W).grown (grownBy_putObj' W l o') (by have := (Array.getElem?_eq_some_iff.1 ho).1; omega) (fun k e => by cases e; omega), fun k p hk hp _ => ?_, fun ⟨A, m, c, hb⟩ => ⟨A, m, c, (World.putObj_heap_other (by omega)).trans hb⟩, (grownBy_putObj' W l o').size⟩
  by_cases h : k = l
  · rw [h, ho] at hk; cases hk; rw [hc] at hp; cases hp
  · exact (World.putObj_heap_other h).trans hk
theorem at_apart {W : World} {B b o wt s : Nat} {p q : Option Addr} (h : SlB W B) (ha : At W b o (elC wt s p q)) : b ≠ B := by
  rintro rfl
  obtain ⟨A, n, c, hb⟩ := h
  have h0 := ha 0 _ rfl
  rw [Nat.add_zero, cell_of_row W b o _ _ _ hb] at h0
  cases o with
  | zero => simp at h0
  | succ o => simp at h0
theorem at_cells {W : World} {b o wt s : Nat} {p q : Option Addr} (ha : At W b o (elC wt s p q)) : ∃ ob, W.heap[b]? = some ob ∧ ob.isCells = true := by
  obtain ⟨c, e, fr, h, _⟩ := Go.Sort.cells_of_cell? (ha 0 _ rfl)
  exact ⟨_, h, rfl⟩
theorem RowL.kpo {n B : Nat} {W W' : World} {k m c : Nat} {A : Option Addr} {xs : List WE} {cs : List Value} (h : RowL W k A m c xs cs) (hk : KpO n B W W') (hb : SlB W B) : RowL W' k A m c xs cs :=
  h.keep hk.size fun b o wt s p q ha => by
    obtain ⟨ob, h1, h2⟩ := at_cells ha
    rw [h1]
    exact hk.cells b ob h1 h2 (at_apart hb ha)
theorem abidesNone {α : Type} {B : Nat} {J : List α → World → Prop} (h : AbidesS B (fun _ => False) J) {s : List α} {W W' : World} (hj : J s W) (hb : Below W.heap.size W W') : J s W' :=
  h s W W' none hj ⟨hb.os, hb.tape, hb.output, hb.size, fun k hk _ => hb.block k hk⟩ (fun r e => by cases e)
/-- A row as it is told: which one it is, where it lies, its cells. -/
structure RwV where
  k : Nat
  A : Option Addr
  n : Nat
  c : Nat
  cs : List Value
def rwE (x : RwV) : Array Value := #[.slice x.A x.n x.c]
def rwX (first : List WE) (x : RwV) (W : World) : Prop := RowL W x.k x.A x.n x.c (rowW first x.k) x.cs
theorem rows_any (A : Option Addr) (l c : Nat) (w : World) :
    Calls Try.prog 53 #[.slice A l c] w fun e w' => e = .returned (.func (.func 77) #[] #[.pointer (some ⟨w.heap.size, 0, none⟩)]) ∧ w.alloc (.cells #[.slice A l c] 89) = w' := by
  go_enter Try.func53, Try.ntmps53
  go_wp2
  go_ret
  exact ⟨rfl, rfl⟩
set_option maxRecDepth 100000 in
set_option maxHeartbeats 1000000 in
theorem rows_seq (n B bx : Nat) (A : Option Addr) (l c : Nat) (first : List WE) (cs : List Value) (w0 : World) (hm : l ≤ 320) (hbd : ∀ x ∈ first, x.1 ≤ 1073741824) (hr : RowL w0 0 A l c first cs) (hn : n ≤ w0.heap.size) (hxB : bx ≠ B)
    (hx : Boxed w0 bx 89 (.slice A l c)) (hB : SlB w0 B) :
    SeqR Fence.wide 5 Try.prog 77 #[.pointer (some ⟨bx, 0, none⟩)] rwE (KpO n B) (fun _ => False) (fun xs => xs.map (·.k) = List.range 15) (fun _ => True) (rwX first) (fun _ _ => True) 16 w0 := by
  intro gy J Jx W hbl hJ hJx hY h0
  have HRW : Hid (RowL W 0 A l c first cs) := hr.below hbl
  have HXW : Hid (Boxed W bx 89 (.slice A l c)) := (hbl.block bx hx.lt).trans hx
  have HBW : Hid (SlB W B) := by obtain ⟨A', n', c', hb⟩ := hB; exact ⟨A', n', c', (hbl.block B hb.lt).trans hb⟩
  have HNZ : Hid (n ≤ W.heap.size) := Nat.le_trans hn hbl.size
  have HY := Lib.hid hY
  have HJ := Lib.hid hJ
  have HBD := Lib.hid hbd
  have hx0 : W.cell? ⟨bx, 0, none⟩ = some (.slice A l c) := HXW.out.cell
  clear hx hr hB hn hbl hY hJ hbd
  refine callsIn_of_wp Try.func77 rfl trivial ?_ rfl
  simp only [Try.ntmps77, List.size_toArray, List.length_cons, List.length_nil, Nat.reduceAdd, Nat.reduceSub, Array.replicate_succ, Array.replicate_zero, List.push_toArray, List.append_toArray, List.nil_append, List.cons_append]
  gi_wp2
  gi_loopw [3, 5] (fun row i wr => ∃ (k : Nat) (pre : List RwV) (A1 : Option Addr) (n1 c1 : Nat) (cs1 : List Value), i = .int .i64 (k : Int) ∧ k ≤ 14 ∧ row = .slice A1 n1 c1 ∧ RowL wr k A1 n1 c1 (rowW first k) cs1 ∧ RowL wr 0 A l c first cs ∧
    Boxed wr bx 89 (.slice A l c) ∧ SlB wr B ∧ n ≤ wr.heap.size ∧ pre.map (·.k) = List.range k ∧ J pre wr) (fun _ i _ => 14 - (intOf i).toNat)
  case atStart => exact ⟨0, [], A, l, c, cs, rfl, by omega, rfl, HRW.out, HRW.out, HXW.out, HBW.out, HNZ.out, rfl, h0⟩
  case round =>
    obtain ⟨k, pre, A1, n1, c1, cs1, rfl, hk, rfl, hrow, hfst, hbx, hslb, hnz, hpre, hj⟩ := hrel
    have hpl : pre.length = k := by have := congrArg List.length hpre; simpa using this
    obtain ⟨fn, tmps, assign, body, hy, hR⟩ := HY.out pre ⟨k, A1, n1, c1, cs1⟩ wr hj hrow (by omega)
    simp only [rwE] at hy
    have HR := Lib.hid hR
    have HROW := Lib.hid hrow
    have HFST := Lib.hid hfst
    have HBX := Lib.hid hbx
    have HSLB := Lib.hid hslb
    have HNW := Lib.hid hnz
    have HPRE := Lib.hid hpre
    have HLEN : Hid (n1 ≤ 640) := by
      show _ ≤ _
      rw [← hrow.len]
      have := rowW_len first k
      have := hfst.len
      omega
    have HWT : Hid (∀ x ∈ rowW first k, x.1 ≤ 1125899906842624) := fun x hx => by
      have h1 := rowW_bd HBD.out k x hx
      have h2 : 2 ^ k ≤ 2 ^ 14 := Nat.pow_le_pow_right (by omega) hk
      have h3 := Nat.mul_le_mul_right 1073741824 h2
      omega
    clear hR hrow hfst hbx hslb hnz hpre hj hx0
    by_cases hk14 : k < 14
    · gi_wp2_with fail
      refine HR.out.mono ?_
      rintro ee W3 (⟨rfl, hJ3, hk3⟩ | ⟨rfl, hJx3⟩)
      · have HR3 := Lib.hid (HROW.out.kpo hk3 HSLB.out)
        have HF3 := Lib.hid (HFST.out.kpo hk3 HSLB.out)
        have HX3 : Hid (Boxed W3 bx 89 (.slice A l c)) := hk3.cells bx _ HBX.out rfl hxB
        have HS3 := Lib.hid (hk3.box HSLB.out)
        have HN3 : Hid (n ≤ W3.heap.size) := Nat.le_trans HNW.out hk3.size
        have HJ3 := Lib.hid hJ3
        have x3 : W3.drew.cell? ⟨bx, 0, none⟩ = some (.slice A l c) := HX3.out.cell
        have HPA := Lib.hid (pairs_row A1 n1 c1 (rowW first k) cs1 k W3.drew (HR3.out.below ((Below.refl W3.heap.size W3).drew)) (by have := HLEN.out; omega) HWT.out)
        clear hJ3 hk3
        gi_wp2_with fail
        gi_region_with (first
          | (refine ⟨trivial, ?_⟩; gi_at_call 79; refine (callsIn_wide.2 HPA.out).mono ?_; rintro e w4 ⟨A4, n4, c4, cs4, rfl, hn4, hr4, hb4⟩; have HN4 := Lib.hid hn4; have HR4 := Lib.hid hr4; have HB4 : Hid (Below W3.heap.size W3 w4) := (((Below.refl W3.heap.size W3).drew).trans hb4); have x4 : w4.cell? ⟨bx, 0, none⟩ = some (.slice A l c) := (HB4.out.cell (p := ⟨bx, 0, none⟩) HX3.out.lt).trans HX3.out.cell; clear hn4 hr4 hb4)
          | (refine ⟨trivial, ?_⟩; gi_at_call 78; refine (callsIn_wide.2 (merge_row A A4 l c n4 c4 first (prW (rowW first k)) cs cs4 (k + 1) w4 ((HF3.out.below HB4.out).ups _) HR4.out (by omega) HN4.out)).mono ?_; rintro e w5 ⟨A5, n5, c5, cs5, rfl, hr5, hb5⟩; have HR5 := Lib.hid hr5; have HB5 : Hid (Below W3.heap.size W3 w5) := HB4.out.trans (hb5.mono HB4.out.size); clear hr5 hb5))
        all_goals
          gi_wp2_with fail
          have hb5 := HB5.out
          refine ⟨⟨k + 1, pre ++ [⟨k, A1, n1, c1, cs1⟩], A5, n5, c5, cs5, by go_num, by omega, rfl, HR5.out, HF3.out.below hb5, (hb5.block bx HX3.out.lt).trans HX3.out, ?_, Nat.le_trans HN3.out hb5.size, ?_, abidesNone HJ.out HJ3.out hb5⟩, ?_⟩
          · obtain ⟨A', n', c', hb⟩ := HS3.out
            exact ⟨A', n', c', (hb5.block B hb.lt).trans hb⟩
          · rw [List.map_append, HPRE.out, List.range_succ]
            rfl
          · simp [intOf]
            omega
      · gi_wp2
        refine bodyPost_ret (results_none rfl _ _ _) rfl ?_
        exact ⟨⟨_, rfl⟩, .inr ⟨_, trivial, hJx3⟩⟩
    · obtain rfl : k = 14 := by omega
      gi_wp2_with fail
      refine HR.out.mono ?_
      rintro ee W3 (⟨rfl, hJ3, hk3⟩ | ⟨rfl, hJx3⟩)
      · gi_wp2
        refine bodyPost_end (results_none rfl _ _ _) rfl ?_
        exact ⟨⟨_, rfl⟩, .inl ⟨_, by rw [List.map_append, HPRE.out]; rfl, hJ3, trivial⟩⟩
      · gi_wp2
        refine bodyPost_end (results_none rfl _ _ _) rfl ?_
        exact ⟨⟨_, rfl⟩, .inr ⟨_, trivial, hJx3⟩⟩
end Go.Proofs.Ytbpgaaecifnohaa
/- Layer 7, plainly: the first elements of a row weigh least; which items they are. -/
namespace Go.Proofs.Ytbpgaaecifnohaa

def wtS (l : List WE) : Nat := (l.map (·.1)).sum
theorem wtS_nil : wtS [] = 0 := rfl
theorem wtS_cons (x : WE) (l : List WE) : wtS (x :: l) = x.1 + wtS l := by simp [wtS]
theorem wtS_append (a b : List WE) : wtS (a ++ b) = wtS a + wtS b := by simp [wtS]
theorem wtS_perm {a b : List WE} (h : a.Perm b) : wtS a = wtS b := (h.map _).sum_nat
def RiseW (l : List WE) : Prop := l.Pairwise (fun a b => a.1 ≤ b.1)
theorem RiseW.tail {x : WE} {l : List WE} (h : RiseW (x :: l)) : RiseW l := (List.pairwise_cons.1 h).2
theorem RiseW.head {x : WE} {l : List WE} (h : RiseW (x :: l)) : ∀ y ∈ l, x.1 ≤ y.1 := (List.pairwise_cons.1 h).1
theorem RiseW.sub {a b : List WE} (h : RiseW b) (s : a.Sublist b) : RiseW a := List.Pairwise.sublist s h

theorem prW_mem_ge {m : Nat} : ∀ l : List WE, (∀ x ∈ l, m ≤ x.1) → ∀ x ∈ prW l, 2 * m ≤ x.1
  | [], _, x, h => by simp [prW] at h
  | [_], _, x, h => by simp [prW] at h
  | a :: b :: r, hl, x, h => by
    rw [prW] at h
    rcases List.mem_cons.1 h with rfl | h
    · have h1 := hl a (by simp)
      have h2 := hl b (by simp)
      show _ ≤ a.1 + b.1
      omega
    · exact prW_mem_ge r (fun y hy => hl y (by simp [hy])) x h
theorem prW_ge2 : ∀ l : List WE, ∀ (a b : WE), RiseW (a :: b :: l) → ∀ x ∈ prW l, a.1 + b.1 ≤ x.1
  | [], _, _, _, x, h => by simp [prW] at h
  | [_], _, _, _, x, h => by simp [prW] at h
  | c :: d :: r, a, b, hr, x, h => by
    have h1 := hr.head c (by simp)
    have h2 := hr.tail.head d (by simp)
    rw [prW] at h
    rcases List.mem_cons.1 h with rfl | h
    · show _ ≤ c.1 + d.1
      omega
    · have := prW_ge2 r c d hr.tail.tail x h
      omega
theorem prW_rise : ∀ l : List WE, RiseW l → RiseW (prW l)
  | [], _ => List.Pairwise.nil
  | [_], _ => List.Pairwise.nil
  | a :: b :: r, h => by
    rw [prW]
    exact List.pairwise_cons.2 ⟨fun x hx => prW_ge2 r a b h x hx, prW_rise r h.tail.tail⟩
theorem dropWhile_gt {its : List WE} (h : RiseW its) (m : Nat) : ∀ x ∈ its.dropWhile (fun x => decide (x.1 ≤ m)), m < x.1 := by
  induction its with
  | nil => intro x hx; simp at hx
  | cons a l ih =>
    intro x hx
    rw [List.dropWhile_cons] at hx
    by_cases ha : a.1 ≤ m
    · rw [if_pos (decide_eq_true ha)] at hx
      exact ih h.tail x hx
    · rw [if_neg (by simp [ha])] at hx
      rcases List.mem_cons.1 hx with rfl | hx
      · omega
      · have := h.head x hx
        omega
theorem takeWhile_le {its : List WE} (m : Nat) : ∀ x ∈ its.takeWhile (fun x => decide (x.1 ≤ m)), x.1 ≤ m := fun x hx => by
  have := List.all_takeWhile (p := fun x : WE => decide (x.1 ≤ m)) (l := its)
  rw [List.all_eq_true] at this
  simpa using this x hx
theorem tw_dw (its : List WE) (m : Nat) : its.takeWhile (fun x => decide (x.1 ≤ m)) ++ its.dropWhile (fun x => decide (x.1 ≤ m)) = its := List.takeWhile_append_dropWhile
theorem mgW_rise : ∀ (ps its : List WE), RiseW ps → RiseW its → RiseW (mgW its ps)
  | [], _, _, h => h
  | p :: ps, its, hp, hi => by
    rw [mgW]
    have hdw := hi.sub (List.dropWhile_sublist (fun x : WE => decide (x.1 ≤ p.1)))
    have ih := mgW_rise ps _ hp.tail hdw
    have hgt := dropWhile_gt hi p.1
    have hle := takeWhile_le (its := its) p.1
    refine List.pairwise_append.2 ⟨hi.sub (List.takeWhile_sublist _), List.pairwise_cons.2 ⟨fun x hx => ?_, ih⟩, fun x hx y hy => ?_⟩
    · rcases mgW_mem ps _ x hx with h | h
      · exact Nat.le_of_lt (hgt x h)
      · exact hp.head x h
    · have h1 := hle x hx
      rcases List.mem_cons.1 hy with rfl | hy
      · exact h1
      · rcases mgW_mem ps _ y hy with h | h
        · exact Nat.le_trans h1 (Nat.le_of_lt (hgt y h))
        · exact Nat.le_trans h1 (hp.head y h)
theorem rowW_rise {first : List WE} (h : RiseW first) : ∀ k, RiseW (rowW first k)
  | 0 => h
  | k + 1 => mgW_rise _ _ (prW_rise _ (rowW_rise h k)) h

/-- Of a row that rises the first ones weigh least. -/
theorem take_least : ∀ {l s : List WE}, RiseW l → s.Sublist l → wtS (l.take s.length) ≤ wtS s := by
  intro l
  induction l with
  | nil => intro s _ hs; cases hs; exact Nat.le_refl _
  | cons x r ih =>
    intro s hl hs
    cases s with
    | nil => exact Nat.zero_le _
    | cons y s =>
      rw [List.length_cons, List.take_succ_cons, wtS_cons, wtS_cons]
      cases hs with
      | cons _ h =>
        have h1 := ih hl.tail ((List.sublist_cons_self y s).trans h)
        have h2 := hl.head y (h.subset (by simp))
        omega
      | cons_cons _ h =>
        have h1 := ih hl.tail h
        omega
theorem its_sub_mg : ∀ (ps its : List WE), its.Sublist (mgW its ps)
  | [], its => List.Sublist.refl _
  | p :: ps, its => by
    rw [mgW]
    have h := its_sub_mg ps (its.dropWhile (fun x => decide (x.1 ≤ p.1)))
    have h2 := List.Sublist.append (List.Sublist.refl (its.takeWhile (fun x => decide (x.1 ≤ p.1)))) (h.cons p)
    rwa [tw_dw] at h2
theorem mg_sub : ∀ (ps its : List WE) (m p : Nat), ∃ s : List WE, s.Sublist (mgW its ps) ∧ s.Perm (its.take m ++ ps.take p)
  | [], its, m, p => ⟨its.take m, by rw [mgW]; exact List.take_sublist _ _, by simp⟩
  | q :: qs, its, m, 0 => ⟨its.take m, (List.take_sublist _ _).trans (its_sub_mg _ _), by simp⟩
  | q :: qs, its, m, p + 1 => by
    obtain ⟨s, h1, h2⟩ := mg_sub qs (its.dropWhile (fun x => decide (x.1 ≤ q.1))) (m - (its.takeWhile (fun x => decide (x.1 ≤ q.1))).length) p
    refine ⟨(its.takeWhile (fun x => decide (x.1 ≤ q.1))).take m ++ q :: s, ?_, ?_⟩
    · rw [mgW]
      exact List.Sublist.append (List.take_sublist _ _) (h1.cons_cons q)
    · have e : its.take m = (its.takeWhile (fun x => decide (x.1 ≤ q.1))).take m ++ (its.dropWhile (fun x => decide (x.1 ≤ q.1))).take (m - (its.takeWhile (fun x => decide (x.1 ≤ q.1))).length) := by
        conv => lhs; rw [← tw_dw its q.1]
        exact List.take_append
      rw [e, List.take_succ_cons, List.append_assoc]
      refine List.Perm.append_left _ ?_
      exact (h2.cons q).trans List.perm_middle.symm
theorem mg_least {its ps : List WE} (hi : RiseW its) (hp : RiseW ps) {m p : Nat} (hm : m ≤ its.length) (hpl : p ≤ ps.length) : wtS ((mgW its ps).take (m + p)) ≤ wtS (its.take m) + wtS (ps.take p) := by
  obtain ⟨s, h1, h2⟩ := mg_sub ps its m p
  have h3 := take_least (mgW_rise ps its hp hi) h1
  have hl : s.length = m + p := by
    rw [h2.length_eq, List.length_append, List.length_take, List.length_take]
    omega
  rw [hl, wtS_perm h2, wtS_append] at h3
  exact h3
theorem pr_take : ∀ (l : List WE) (p : Nat), 2 * p ≤ l.length → wtS ((prW l).take p) = wtS (l.take (2 * p))
  | _, 0, _ => rfl
  | [], p + 1, h => by simp at h
  | [_], p + 1, h => by simp at h; omega
  | a :: b :: r, p + 1, h => by
    have ih := pr_take r p (by simp at h; omega)
    rw [prW, List.take_succ_cons, wtS_cons, ih, show 2 * (p + 1) = 2 * p + 1 + 1 by omega, List.take_succ_cons, List.take_succ_cons, wtS_cons, wtS_cons]
    omega

def sumN (f : Nat → Nat) : Nat → Nat
  | 0 => 0
  | k + 1 => sumN f k + f k
theorem sumN_congr {f g : Nat → Nat} : ∀ {k : Nat}, (∀ j, j < k → f j = g j) → sumN f k = sumN g k
  | 0, _ => rfl
  | k + 1, h => by rw [sumN, sumN, sumN_congr (fun j hj => h j (by omega)), h k (by omega)]
theorem sumN_add (f g : Nat → Nat) : ∀ k, sumN (fun j => f j + g j) k = sumN f k + sumN g k
  | 0 => rfl
  | k + 1 => by rw [sumN, sumN, sumN, sumN_add f g k]; omega
theorem sumN_zero : ∀ k, sumN (fun _ => 0) k = 0
  | 0 => rfl
  | k + 1 => by rw [sumN, sumN_zero k]

/-- Whatever items are taken out of each row: no less than the first ones of the last row weigh. -/
theorem row_least {first : List WE} (hf : RiseW first) : ∀ (k t : Nat) (a : Nat → List WE), (∀ j, j ≤ k → (a j).Sublist first) → sumN (fun j => (a j).length * 2 ^ j) (k + 1) = t * 2 ^ k →
    t ≤ (rowW first k).length ∧ wtS ((rowW first k).take t) ≤ sumN (fun j => wtS (a j)) (k + 1)
  | 0, t, a, ha, hs => by
    have e : (a 0).length = t := by simpa [sumN] using hs
    have h := take_least hf (ha 0 (Nat.le_refl _))
    rw [e] at h
    exact ⟨e ▸ (ha 0 (Nat.le_refl _)).length_le, by simpa [sumN, rowW] using h⟩
  | k + 1, t, a, ha, hs => by
    rw [sumN] at hs
    have hpow : 2 ^ (k + 1) = 2 * 2 ^ k := by rw [Nat.pow_succ]; omega
    have hp0 := Nat.two_pow_pos k
    have hmt : (a (k + 1)).length ≤ t := Nat.le_of_mul_le_mul_right (by omega : (a (k + 1)).length * 2 ^ (k + 1) ≤ t * 2 ^ (k + 1)) (Nat.two_pow_pos _)
    obtain ⟨p, rfl⟩ := Nat.exists_eq_add_of_le hmt
    have hs2 : sumN (fun j => (a j).length * 2 ^ j) (k + 1) = (2 * p) * 2 ^ k := by
      have : ((a (k + 1)).length + p) * 2 ^ (k + 1) = (a (k + 1)).length * 2 ^ (k + 1) + (2 * p) * 2 ^ k := by
        rw [Nat.add_mul, hpow, ← Nat.mul_assoc p, Nat.mul_comm p 2]
      omega
    obtain ⟨h1, h2⟩ := row_least hf k (2 * p) a (fun j hj => ha j (by omega)) hs2
    have hal := (ha (k + 1) (Nat.le_refl _)).length_le
    have hpl : p ≤ (prW (rowW first k)).length := by rw [prW_len]; omega
    refine ⟨by rw [rowW, mgW_len]; omega, ?_⟩
    have h3 := mg_least hf (prW_rise _ (rowW_rise hf k)) hal hpl
    have h4 := take_least hf (ha (k + 1) (Nat.le_refl _))
    rw [pr_take _ _ h1] at h3
    rw [sumN, rowW]
    omega

/-- The first ones of both: the first items, the first pairs, and each item that isn't heavier than one of those pairs. -/
theorem mg_take : ∀ (ps its : List WE), RiseW its → ∀ t, t ≤ (mgW its ps).length → ∃ m p, m + p = t ∧ m ≤ its.length ∧ p ≤ ps.length ∧ ((mgW its ps).take t).Perm (its.take m ++ ps.take p) ∧
    ∀ (i : Nat) (x q : WE), its[i]? = some x → q ∈ ps.take p → x.1 ≤ q.1 → i < m
  | [], its, _, t, ht => ⟨t, 0, rfl, ht, Nat.le_refl _, by simp [mgW], fun i x q _ hq => by simp at hq⟩
  | q :: qs, its, hi, t, ht => by
    obtain ⟨tw, htw⟩ : ∃ tw, its.takeWhile (fun x => decide (x.1 ≤ q.1)) = tw := ⟨_, rfl⟩
    obtain ⟨dw, hdw⟩ : ∃ dw, its.dropWhile (fun x => decide (x.1 ≤ q.1)) = dw := ⟨_, rfl⟩
    have e : tw ++ dw = its := by rw [← htw, ← hdw]; exact tw_dw _ _
    have hgt := dropWhile_gt hi q.1
    have hdr : RiseW dw := by rw [← hdw]; exact hi.sub (List.dropWhile_sublist _)
    rw [mgW, htw, hdw] at ht ⊢
    rw [hdw] at hgt
    by_cases h : t ≤ tw.length
    · refine ⟨t, 0, rfl, by rw [← e, List.length_append]; omega, Nat.zero_le _, ?_, fun i x q _ hq => by simp at hq⟩
      rw [List.take_append_of_le_length h, ← e, List.take_append_of_le_length h]
      simp
    · obtain ⟨t', rfl⟩ : ∃ t', t = tw.length + (t' + 1) := ⟨t - tw.length - 1, by omega⟩
      obtain ⟨m, p, hmp, hm, hp, hperm, hcl⟩ := mg_take qs dw hdr t' (by rw [List.length_append, List.length_cons] at ht; omega)
      refine ⟨tw.length + m, p + 1, by omega, by rw [← e, List.length_append]; omega, by rw [List.length_cons]; omega, ?_, fun i x q' hx hq' hle => ?_⟩
      · rw [List.take_length_add_append, List.take_succ_cons, ← e, List.take_length_add_append, List.take_succ_cons, List.append_assoc]
        exact List.Perm.append_left _ ((hperm.cons q).trans List.perm_middle.symm)
      · by_cases hil : i < tw.length
        · omega
        · rw [← e, List.getElem?_append_right (by omega)] at hx
          rw [List.take_succ_cons] at hq'
          rcases List.mem_cons.1 hq' with rfl | hq'
          · have := hgt x (List.mem_of_getElem? hx)
            omega
          · have := hcl _ x q' hx hq' hle
            omega
theorem pr_take_syms : ∀ (l : List WE) (p : Nat), 2 * p ≤ l.length → ((prW l).take p).flatMap (·.2) = (l.take (2 * p)).flatMap (·.2)
  | _, 0, _ => rfl
  | [], p + 1, h => by simp at h
  | [_], p + 1, h => by simp at h; omega
  | a :: b :: r, p + 1, h => by
    have ih := pr_take_syms r p (by simp at h; omega)
    rw [prW, List.take_succ_cons, List.flatMap_cons, ih, show 2 * (p + 1) = 2 * p + 1 + 1 by omega, List.take_succ_cons, List.take_succ_cons, List.flatMap_cons, List.flatMap_cons, List.append_assoc]
theorem pr_take_mem : ∀ (l : List WE) (p : Nat) (x : WE), 2 * p ≤ l.length → x ∈ l.take (2 * p) → ∃ q ∈ (prW l).take p, x.1 ≤ q.1
  | _, 0, x, _, hx => by simp at hx
  | [], p + 1, x, h, _ => by simp at h
  | [_], p + 1, x, h, _ => by simp at h; omega
  | a :: b :: r, p + 1, x, h, hx => by
    rw [show 2 * (p + 1) = 2 * p + 1 + 1 by omega, List.take_succ_cons, List.take_succ_cons] at hx
    rw [prW, List.take_succ_cons]
    rcases List.mem_cons.1 hx with rfl | hx
    · exact ⟨_, List.mem_cons_self, Nat.le_add_right _ _⟩
    rcases List.mem_cons.1 hx with rfl | hx
    · exact ⟨_, List.mem_cons_self, Nat.le_add_left _ _⟩
    obtain ⟨q, hq, hle⟩ := pr_take_mem r p x (by simp at h; omega) hx
    exact ⟨q, List.mem_cons_of_mem _ hq, hle⟩

/-- What the first t elements of a row are: of each row ahead so many first items. -/
structure Chosen (first : List WE) (k t : Nat) (m : Nat → Nat) : Prop where
  le : ∀ j, j ≤ k → m j ≤ first.length
  up : ∀ j, j < k → m j ≤ m (j + 1)
  width : sumN (fun j => m j * 2 ^ j) (k + 1) = t * 2 ^ k
  weight : wtS ((rowW first k).take t) = sumN (fun j => wtS (first.take (m j))) (k + 1)
  count : ∀ s, (((rowW first k).take t).flatMap (·.2)).count s = sumN (fun j => ((first.take (m j)).flatMap (·.2)).count s) (k + 1)
  has : ∀ x ∈ first.take (m k), x ∈ (rowW first k).take t
theorem chosen {first : List WE} (hf : RiseW first) : ∀ (k t : Nat), t ≤ (rowW first k).length → ∃ m, Chosen first k t m
  | 0, t, ht => ⟨fun _ => t, fun _ _ => ht, fun j hj => by omega, by simp [sumN], by simp [sumN, rowW], fun s => by simp [sumN, rowW], fun x hx => hx⟩
  | k + 1, t, ht => by
    obtain ⟨m', p, hmp, hm, hp, hperm, hcl⟩ := mg_take (prW (rowW first k)) first hf t ht
    have h2p : 2 * p ≤ (rowW first k).length := by rw [prW_len] at hp; omega
    obtain ⟨m, hc⟩ := chosen hf k (2 * p) h2p
    have hlt : ∀ j, j ≤ k → (if j ≤ k then m j else m') = m j := fun j hj => if_pos hj
    have hgt : (if k + 1 ≤ k then m (k + 1) else m') = m' := if_neg (by omega)
    have hcg : ∀ (g : Nat → Nat → Nat), sumN (fun j => g j (if j ≤ k then m j else m')) (k + 1 + 1) = sumN (fun j => g j (m j)) (k + 1) + g (k + 1) m' := fun g => by
      rw [sumN, hgt]
      congr 1
      exact sumN_congr fun j hj => by rw [hlt j (by omega)]
    have hpow : 2 ^ (k + 1) = 2 * 2 ^ k := by rw [Nat.pow_succ]; omega
    refine ⟨fun j => if j ≤ k then m j else m', fun j hj => ?_, fun j hj => ?_, ?_, ?_, fun s => ?_, ?_⟩
    · split
      · exact hc.le j ‹_›
      · exact hm
    · rw [hlt j (by omega)]
      by_cases h : j < k
      · rw [hlt (j + 1) (by omega)]
        exact hc.up j h
      · obtain rfl : j = k := by omega
        rw [hgt]
        rcases Nat.lt_or_ge m' (m j) with h1 | h1
        · have h2 : m' < first.length := Nat.lt_of_lt_of_le h1 (hc.le j (Nat.le_refl _))
          have hx : first[m']? = some first[m'] := List.getElem?_eq_getElem h2
          have hmem : first[m'] ∈ first.take (m j) := List.mem_of_getElem? (i := m') (by rw [List.getElem?_take_of_lt h1]; exact hx)
          obtain ⟨q, hq, hle⟩ := pr_take_mem _ p _ h2p (hc.has _ hmem)
          have := hcl m' _ q hx hq hle
          omega
        · exact h1
    · rw [hcg fun j v => v * 2 ^ j, hc.width, ← hmp, Nat.add_mul, hpow, ← Nat.mul_assoc p, Nat.mul_comm p 2]
      omega
    · rw [hcg fun _ v => wtS (first.take v), rowW, wtS_perm hperm, wtS_append, pr_take _ _ h2p, hc.weight]
      omega
    · rw [hcg fun _ v => ((first.take v).flatMap (·.2)).count s, rowW, (hperm.flatMap_right _).count_eq, List.flatMap_append, List.count_append, pr_take_syms _ _ h2p, hc.count]
      omega
    · intro x hx
      rw [hgt] at hx
      rw [rowW, hperm.mem_iff]
      exact List.mem_append_left _ hx
end Go.Proofs.Ytbpgaaecifnohaa
