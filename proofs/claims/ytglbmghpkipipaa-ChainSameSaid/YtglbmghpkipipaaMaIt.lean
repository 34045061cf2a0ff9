/- Layer 10: the candidates, as an iterator tells them. -/
import Derived.Test.YtglbmghpkipipaaRange
import Derived.Test.YtglbmghpkipipaaMaLen
import Derived.Laws.Cover3
import Derived.Stop.BytesEq
import Derived.Sort.QuietIn
import Derived.Lib.Hide
import Derived.Below
namespace Go.Proofs.Ytglbmghpkipipaa
open Go.RowKit Go.Shelf
attribute [local go_sem] Oper.semAt_some

/-- May a match begin there? -/
def begB (l : Nat) (a : Int) : Bool := decide (0 ≤ a) && decide (a ≤ (l : Int) - 3)
set_option maxHeartbeats 400000 in
theorem begins_any (A : Option Addr) (l c : Nat) (a : Int) (w : World) (hm : l ≤ 1099511627776) :
    Calls Try.prog 35 #[.slice A l c, .int .i64 a] w fun e w' => e = .returned (.bool (begB l a)) ∧ w = w' := by
  by_cases h0 : 0 ≤ a
  · have HB : Hid (begB l a = decide (a ≤ (l : Int) - 3)) := by show _ = _; rw [begB, decide_eq_true h0, Bool.true_and]
    have hd : decide (0 ≤ a) = true := decide_eq_true h0
    clear h0
    go_enter Try.func35, Try.ntmps35
    go_wp2
    go_ret
    exact ⟨by rw [HB.out]; rfl, rfl⟩
  · have HB : Hid (begB l a = false) := by show _ = _; rw [begB, decide_eq_false h0, Bool.false_and]
    have hd : decide (0 ≤ a) = false := decide_eq_false h0
    clear h0
    go_enter Try.func35, Try.ntmps35
    go_wp2
    go_ret
    exact ⟨by rw [HB.out]; rfl, rfl⟩
set_option maxHeartbeats 400000 in
theorem candidates_any (A : Option Addr) (l c : Nat) (a : Int) (w : World) :
    Calls Try.prog 26 #[.slice A l c, .int .i64 a] w fun e w' => e = .returned (.func (.func 34) #[] #[.pointer (some ⟨w.heap.size, 0, none⟩), .pointer (some ⟨w.heap.size + 1, 0, none⟩)]) ∧
      (w.alloc (.cells #[.slice A l c] 22)).alloc (.cells #[.int .i64 a] 3) = w' := by
  go_enter Try.func26, Try.ntmps26
  go_wp2
  go_ret
  exact ⟨rfl, rfl⟩
/-- The cells of all blocks but those of S stay. -/
def KeepC (S : Nat → Prop) (W W' : World) : Prop := ∀ k o, W.heap[k]? = some o → o.isCells = true → ¬ S k → W'.heap[k]? = some o
theorem KeepC.refl (S : Nat → Prop) (W : World) : KeepC S W W := fun _ _ h _ _ => h
theorem KeepC.trans {S : Nat → Prop} {A B C : World} (h : KeepC S A B) (k : KeepC S B C) : KeepC S A C := fun j o hj ho hs => k j o (h j o hj ho hs) ho hs
theorem KeepC.cell {S : Nat → Prop} {W W' : World} {a : Addr} {v : Value} (h : KeepC S W W') (hc : W.cell? a = some v) (hs : ¬ S a.block) : W'.cell? a = some v := by
  obtain ⟨o, ho, hi⟩ := cells_of_cell hc
  exact (World.cell?_of_block ((h _ o ho hi hs).trans ho.symm)).trans hc
theorem KeepC.putObj (S : Nat → Prop) (W : World) (l : Nat) (o o' : Obj) (ho : W.heap[l]? = some o) (hc : o.isCells = false) : KeepC S W (W.putObj l o') := fun k p hk hp _ => by
  by_cases h : k = l
  · rw [h, ho] at hk; cases hk; rw [hc] at hp; cases hp
  · exact (World.putObj_heap_other h).trans hk
theorem KeepC.set {S : Nat → Prop} {W : World} (a : Addr) (v : Value) (h : S a.block) : KeepC S W (W.setCell a v) := fun k _ hk _ hs => (Below.heap_setCell W a v k (fun e => hs (by rw [e]; exact h))).trans hk
theorem begB_yes {l : Nat} {a : Int} (h : begB l a = true) : 0 ≤ a ∧ a + 3 ≤ (l : Int) := by
  unfold begB at h
  rw [Bool.and_eq_true, decide_eq_true_eq, decide_eq_true_eq] at h
  omega
theorem begB_no {bs : List UInt8} {l : Nat} {a : Int} (hl : bs.length = l) (h : begB l a = false) : cands bs a = [] := by
  unfold begB at h
  rw [Bool.and_eq_false_iff, decide_eq_false_iff_not, decide_eq_false_iff_not] at h
  rw [cands, if_neg (by omega)]
theorem cands_at {bs : List UInt8} {n : Nat} (h : n + 3 ≤ bs.length) : cands bs (n : Int) = candN bs n (min n 32768) := by
  rw [cands, if_pos (by omega)]
  simp
theorem abidesNo {α : Type} {B : Nat} {J : List α → World → Prop} (h : AbidesS B (fun _ => False) J) {s : List α} {W : World} (o : Obj) (hj : J s W) : J s (W.alloc o) :=
  h s W _ none hj ⟨rfl, rfl, rfl, by simp, fun k hk _ => Below.heap_alloc W o k hk⟩ (fun r e => by cases e)
theorem abidesDrew {α : Type} {B : Nat} {J : List α → World → Prop} (h : AbidesS B (fun _ => False) J) {s : List α} {W : World} (hj : J s W) : J s W.drew :=
  h s W _ none hj ⟨rfl, rfl, rfl, Nat.le_refl _, fun _ _ _ => rfl⟩ (fun r e => by cases e)
theorem abidesDrewN {α : Type} {B : Nat} {J : List α → World → Prop} (h : AbidesS B (fun _ => False) J) {s : List α} {W : World} (hj : J s W) (n : Nat) : J s (W.drewN n) :=
  h s W _ none hj ⟨rfl, rfl, rfl, Nat.le_refl _, fun _ _ _ => rfl⟩ (fun r e => by cases e)
theorem cell_alloc_l {W : World} {a : Addr} {v : Value} (o : Obj) (h : W.cell? a = some v) : (W.alloc o).cell? a = some v := cell_kept h (World.grownBy_alloc W o none) (fun r e => by cases e)
/-- One round, told by one truth value. -/
theorem yieldAt_bool {F : Fence} {n : Nat} {P : Program} {l : Nat} {vs : Array Value} {W : World} {p q : World → Prop} (h : YieldAt F n P l vs W fun e W' => (e = .returned (.bool true) ∧ p W') ∨ (e = .returned (.bool false) ∧ q W')) :
    YieldAt F n P l vs W fun e W' => ∃ t : Bool, e = .returned (.bool t) ∧ (t = true → p W') ∧ (t = false → q W') :=
  h.mono fun e W' h => by
    rcases h with ⟨rfl, h⟩ | ⟨rfl, h⟩
    · exact ⟨true, rfl, fun _ => h, fun h => by cases h⟩
    · exact ⟨false, rfl, (fun h => by cases h), fun _ => h⟩
theorem agg3 {x0 x1 x2 y0 y1 y2 : UInt8} : ((Value.agg #[.int .u8 (y0.toNat : Int), .int .u8 (y1.toNat : Int), .int .u8 (y2.toNat : Int)]) = .agg #[.int .u8 (x0.toNat : Int), .int .u8 (x1.toNat : Int), .int .u8 (x2.toNat : Int)]) ↔ (y0 = x0 ∧ y1 = x1 ∧ y2 = x2) := by
  constructor
  · intro h
    simp at h
    exact ⟨UInt8.toNat_inj.1 (by omega), UInt8.toNat_inj.1 (by omega), UInt8.toNat_inj.1 (by omega)⟩
  · rintro ⟨rfl, rfl, rfl⟩; rfl
theorem three_eq {bs : List UInt8} {q k : Nat} {x0 x1 x2 y0 y1 y2 : UInt8} (h0 : bs[q + (k + 1)]? = some x0) (h1 : bs[q + (k + 1) + 1]? = some x1) (h2 : bs[q + (k + 1) + 2]? = some x2) (g0 : bs[q]? = some y0) (g1 : bs[q + 1]? = some y1) (g2 : bs[q + 2]? = some y2) :
    three bs (q + (k + 1)) (k + 1) = (y0 == x0 && y1 == x1 && y2 == x2) := by
  unfold three
  rw [show q + (k + 1) - (k + 1) = q by omega]
  simp only [List.getD, h0, h1, h2, g0, g1, g2, Option.getD_some]
set_option maxRecDepth 100000 in
set_option maxHeartbeats 2000000 in
theorem cand_seq (S : Nat → Prop) (B b1 b2 : Nat) (A : Option Addr) (l c : Nat) (bs : List UInt8) (a : Int) (w0 : World) (hl : bs.length = l) (hm : l ≤ 1099511627776) (hcap : l ≤ c) (hb : Bytes w0 B A bs) (hS : ∀ k, S k → B ≤ k ∧ k < w0.heap.size ∧ k ≠ b1 ∧ k ≠ b2) (hB : B ≤ w0.heap.size)
    (h1 : w0.heap[b1]? = some (.cells #[.slice A l c] 22)) (h2 : w0.heap[b2]? = some (.cells #[.int .i64 a] 3)) :
    SeqS Fence.wide 5 Try.prog 34 #[.pointer (some ⟨b1, 0, none⟩), .pointer (some ⟨b2, 0, none⟩)] (fun x : Nat => #[.int .i64 (x : Int)]) (KeepC S) (fun _ => False) (fun xs => xs = cands bs a) (fun pre => pre <+: cands bs a) 32769 w0 := by
  intro g J Jx W hbl hJ hJx hY h0
  have HL := Lib.hid hl
  have HBY := Lib.hid (hb.below hbl hB)
  have HSZ := Lib.hid hbl.size
  have HS := Lib.hid hS
  have HY := Lib.hid hY
  have h1W := (hbl.block b1 (Array.getElem?_eq_some_iff.1 h1).1).trans h1
  have h2W := (hbl.block b2 (Array.getElem?_eq_some_iff.1 h2).1).trans h2
  have HLT1 := Lib.hid (Array.getElem?_eq_some_iff.1 h1).1
  have HLT2 := Lib.hid (Array.getElem?_eq_some_iff.1 h2).1
  have c1 : W.cell? ⟨b1, 0, none⟩ = some (.slice A l c) := cell_of_row W b1 0 _ _ _ h1W
  have c2 : W.cell? ⟨b2, 0, none⟩ = some (.int .i64 a) := cell_of_row W b2 0 _ _ _ h2W
  clear h1 h2 hb hl
  cases hbg : begB l a with
  | false =>
    have HBG := Lib.hid (begB_no HL.out hbg)
    have HBN := Lib.hid (begins_any A l c a W hm)
    rw [hbg] at HBN
    refine callsIn_of_wp Try.func34 rfl trivial ?_ rfl
    simp only [Try.ntmps34, List.size_toArray, List.length_cons, List.length_nil, Nat.reduceAdd, Nat.reduceSub, Array.replicate_succ, Array.replicate_zero, List.push_toArray, List.append_toArray, List.nil_append, List.cons_append]
    gi_wp2_with (refine ⟨trivial, ?_⟩; gi_at_call 35; refine (callsIn_wide.2 HBN.out).mono ?_; rintro e w' ⟨rfl, rfl⟩)
    refine bodyPost_ret (results_none rfl _ _ _) rfl ?_
    exact ⟨⟨_, rfl⟩, .inl ⟨[], HBG.out.symm, h0⟩⟩
  | true =>
    obtain ⟨g0, g1⟩ := begB_yes hbg
    obtain ⟨n, rfl⟩ := Int.eq_ofNat_of_zero_le g0
    have hn3 : n + 3 ≤ l := by omega
    obtain ⟨M, hM⟩ : ∃ M, min n 32768 = M := ⟨_, rfl⟩
    have hmin : (if (32768 : Int) < (n : Int) then (32768 : Int) else (n : Int)) = (M : Int) := by split <;> omega
    have HM : Hid (M ≤ n ∧ M ≤ 32768) := by show _ ∧ _; omega
    have hcn : n < c := by omega
    have HCA : Hid (cands bs (n : Int) = candN bs n (min n 32768)) := cands_at (by rw [HL.out]; exact hn3)
    rw [hM] at HCA
    clear hM
    have HBN := Lib.hid (begins_any A l c n W hm)
    rw [hbg] at HBN
    obtain ⟨b, o, rfl, hbB, hc⟩ := HBY.out (by rw [byteCells_length, HL.out]; omega)
    obtain ⟨x0, hx0⟩ : ∃ x, bs[n]? = some x := ⟨_, List.getElem?_eq_getElem (by rw [HL.out]; omega)⟩
    obtain ⟨x1, hx1⟩ : ∃ x, bs[n + 1]? = some x := ⟨_, List.getElem?_eq_getElem (by rw [HL.out]; omega)⟩
    obtain ⟨x2, hx2⟩ : ∃ x, bs[n + 2]? = some x := ⟨_, List.getElem?_eq_getElem (by rw [HL.out]; omega)⟩
    have d0 : W.cell? ⟨b, o + n, none⟩ = some (.int .u8 (x0.toNat : Int)) := hc _ _ (byteCells_get hx0)
    have d1 : W.cell? ⟨b, o + n + 1, none⟩ = some (.int .u8 (x1.toNat : Int)) := hc _ _ (byteCells_get hx1)
    have d2 : W.cell? ⟨b, o + n + 2, none⟩ = some (.int .u8 (x2.toNat : Int)) := hc _ _ (byteCells_get hx2)
    have HC := Lib.hid hc
    have hat : ∀ w, (Instr.arrayAt 68 (.slice (some ⟨b, o + n, none⟩) (l - n) (c - n))).run Try.prog w = .ok (.pointer (some ⟨b, o + n, none⟩)) w := fun w => run_arrayAt w 68 _ 3 _ (l - n) (c - n) Try.underlying68 (by omega)
    refine callsIn_of_wp Try.func34 rfl trivial ?_ rfl
    simp only [Try.ntmps34, List.size_toArray, List.length_cons, List.length_nil, Nat.reduceAdd, Nat.reduceSub, Array.replicate_succ, Array.replicate_zero, List.push_toArray, List.append_toArray, List.nil_append, List.cons_append]
    gi_wp2_with ((refine ⟨trivial, ?_⟩; gi_at_call 35; refine (callsIn_wide.2 HBN.out).mono ?_; rintro e w' ⟨rfl, rfl⟩))
    gi_loopw [5] (fun i wr => ∃ k : Nat, i = .int .i64 ((k + 1 : Nat) : Int) ∧ k ≤ M ∧ wr.cell? ⟨b1, 0, none⟩ = some (.slice (some ⟨b, o, none⟩) l c) ∧ wr.cell? ⟨b2, 0, none⟩ = some (.int .i64 n) ∧
      (wr.cell? ⟨W.heap.size, 0, none⟩ = some (.int .u8 (x0.toNat : Int)) ∧ wr.cell? ⟨W.heap.size, 1, none⟩ = some (.int .u8 (x1.toNat : Int)) ∧ wr.cell? ⟨W.heap.size, 2, none⟩ = some (.int .u8 (x2.toNat : Int))) ∧
      (∀ (j : Nat) (u : Value), (byteCells bs)[j]? = some u → wr.cell? ⟨b, o + j, none⟩ = some u) ∧ J (candN bs n k) wr) (fun i _ => n + 2 - (intOf i).toNat)
    case atStart =>
      have hne : W.heap[W.heap.size]? = none := by simp
      refine ⟨0, rfl, Nat.zero_le _, cell_alloc_l _ c1, cell_alloc_l _ c2, ?_, fun j u hj => cell_alloc_l _ (HC.out j u hj), abidesNo hJ _ h0⟩
      have hh := heap_alloc_new W (.cells #[Value.int IntKind.u8 (x0.toNat : Int), Value.int IntKind.u8 (x1.toNat : Int), Value.int IntKind.u8 (x2.toNat : Int)] 68)
      exact ⟨cell_of_row _ W.heap.size 0 _ _ _ hh, cell_of_row _ W.heap.size 1 _ _ _ hh, cell_of_row _ W.heap.size 2 _ _ _ hh⟩
    case round =>
      obtain ⟨k, rfl, hk, e1, e2, ⟨e3, e4, e5⟩, he, hJs⟩ := hrel
      clear c1 c2 d0 d1 d2
      by_cases hlt : k < M
      · obtain ⟨q, hq⟩ : ∃ q, n = q + (k + 1) := ⟨n - (k + 1), by have := HM.out; omega⟩
        obtain ⟨y0, hy0⟩ : ∃ x, bs[q]? = some x := ⟨_, List.getElem?_eq_getElem (by rw [HL.out]; omega)⟩
        obtain ⟨y1, hy1⟩ : ∃ x, bs[q + 1]? = some x := ⟨_, List.getElem?_eq_getElem (by rw [HL.out]; omega)⟩
        obtain ⟨y2, hy2⟩ : ∃ x, bs[q + 2]? = some x := ⟨_, List.getElem?_eq_getElem (by rw [HL.out]; omega)⟩
        have d0 : wr.cell? ⟨b, o + q, none⟩ = some (.int .u8 (y0.toNat : Int)) := he _ _ (byteCells_get hy0)
        have d1 : wr.cell? ⟨b, o + q + 1, none⟩ = some (.int .u8 (y1.toNat : Int)) := he _ _ (byteCells_get hy1)
        have d2 : wr.cell? ⟨b, o + q + 2, none⟩ = some (.int .u8 (y2.toNat : Int)) := he _ _ (byteCells_get hy2)
        have hat2 : ∀ w, (Instr.arrayAt 68 (.slice (some ⟨b, o + q, none⟩) (l - q) (c - q))).run Try.prog w = .ok (.pointer (some ⟨b, o + q, none⟩)) w := fun w => run_arrayAt w 68 _ 3 _ (l - q) (c - q) Try.underlying68 (by omega)
        have hsub : (n : Int) - ((k : Int) + 1) = (q : Int) := by omega
        have hqc : ¬ c = q := by omega
        have hwq : IntKind.i64.wrap (q : Int) = (q : Int) := IntWalk.i64_in _ (by omega)
        have hqi : (q : Int) ≤ (l : Int) := by omega
        have hql : q ≤ l := by omega
        have heq : ∀ w, (Op.equalIn 10000 68 (.agg #[.int .u8 (y0.toNat : Int), .int .u8 (y1.toNat : Int), .int .u8 (y2.toNat : Int)]) (.agg #[.int .u8 (x0.toNat : Int), .int .u8 (x1.toNat : Int), .int .u8 (x2.toNat : Int)])).run Try.prog w = .ok (three bs n (k + 1)) w := fun w => by
          have h := run_equalIn_bytes (P := Try.prog) w 9998 68 5 3 Try.underlying68 Try.underlying5 (fun w => by simp [go_sem, sizeOf]; rfl) [y0, y1, y2] [x0, x1, x2] rfl rfl
          rw [hq] at hx0 hx1 hx2 ⊢
          rw [three_eq hx0 hx1 hx2 hy0 hy1 hy2]
          refine h.trans ?_
          simp [Bool.and_assoc]
        have HQ := Lib.hid hq
        obtain ⟨fn, tmps, assign, body, hy, hR⟩ := yieldAt_bool (HY.out (candN bs n k) (k + 1) wr.drew (abidesDrew hJ hJs) (by have := candN_len bs n k; have := HM.out; omega))
        have HR := Lib.hid hR
        clear hR
        push_cast at hy
        clear hq hat
        gi_wp2
        cases htb : three bs n (k + 1) with
        | false =>
          have HTB := Lib.hid htb
          rw [htb] at heq
          clear htb
          refine wpIn_region_quiet_lit rfl (by kernel_rfl) (by kernel_rfl) ?_
          repeat (gi_big_quiet_step (fail))
          refine wpQuietIn_step (fun _ _ _ _ => trivial) (fun K hK => ?_)
          go_simp
          refine hK _ ?_
          clear hK K
          repeat (gi_big_quiet_step (fail))
          refine wpQuietIn_nil ?_
          intro _ hw'
          obtain ⟨nq, hw''⟩ := hw'
          subst hw''
          gi_wp2
          refine ⟨⟨k + 1, by go_num, by omega, e1, e2, ⟨e3, e4, e5⟩, he, ?_⟩, ?_⟩
          · rw [candN_no HTB.out]; exact abidesDrewN hJ hJs _
          · simp [intOf]; omega
        | true =>
          have HTB := Lib.hid htb
          have HPX : Hid (candN bs n k ++ [k + 1] <+: candN bs n M) := by
            show _ <+: _
            rw [← candN_yes htb]
            exact candN_pre bs n hlt
          have HYES : Hid (candN bs n k ++ [k + 1] = candN bs n (k + 1)) := (candN_yes htb).symm
          rw [htb] at heq
          clear htb
          have HN1 : Hid (¬ S b1) := fun h => (HS.out b1 h).2.2.1 rfl
          have HN2 : Hid (¬ S b2) := fun h => (HS.out b2 h).2.2.2 rfl
          have HNG : Hid (¬ S W.heap.size) := fun h => by have := (HS.out _ h).2.1; have := HSZ.out; omega
          have HNB : Hid (¬ S b) := fun h => by have := (HS.out _ h).1; omega
          gi_region_with ((refine HR.out.mono ?_; rintro e W3 ⟨t, rfl, ht, hf⟩))
          all_goals
            cases t with
            | true =>
              obtain ⟨hJ3, hk3⟩ := ht rfl
              rw [HYES.out] at hJ3
              have e1' := hk3.cell e1 HN1.out
              have e2' := hk3.cell e2 HN2.out
              have e3' := hk3.cell e3 HNG.out
              have e4' := hk3.cell e4 HNG.out
              have e5' := hk3.cell e5 HNG.out
              have he' : ∀ (j : Nat) (u : Value), (byteCells bs)[j]? = some u → W3.cell? ⟨b, o + j, none⟩ = some u := fun j u hj => hk3.cell (he j u hj) HNB.out
              gi_wp2
              refine ⟨⟨k + 1, by go_num, by omega, e1', e2', ⟨e3', e4', e5'⟩, he', hJ3⟩, ?_⟩
              simp [intOf]
              omega
            | false =>
              have hJx3 := hf rfl
              gi_wp2
              refine bodyPost_ret (results_none rfl _ _ _) rfl ?_
              exact ⟨⟨_, rfl⟩, .inr ⟨candN bs n k ++ [k + 1], by rw [HCA.out]; exact HPX.out, hJx3⟩⟩
      · obtain rfl : k = M := by omega
        gi_wp2
        go_end0
        exact ⟨⟨_, rfl⟩, .inl ⟨candN bs n k, HCA.out.symm, hJs⟩⟩
end Go.Proofs.Ytglbmghpkipipaa
