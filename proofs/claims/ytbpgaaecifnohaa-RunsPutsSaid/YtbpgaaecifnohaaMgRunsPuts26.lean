/- What a round keeps that appends to the slice in a box; append within a fence. -/
import Derived.Test.YtbpgaaecifnohaaMgRunsPuts01
import Derived.RangeFuncBox
import Derived.Maps.AppendAt
import Derived.Deep.Draws
import Derived.Shelf.RegionOpen
import Derived.Shelf.Abstract
import Derived.RangeFuncNested
import Derived.RangeFuncBound
import Derived.RangeFuncCalls
import Derived.RangeFuncLeaves
import Derived.RangeFuncFrom
import Derived.OwnWalkIn
import Derived.TacticsInMore
import Derived.LoopNIn
import Derived.LoopIn
import Derived.Test.YtbpgaaecifnohaaMgRunsPuts25
namespace Go.Proofs.Ytbpgaaecifnohaa
open Go.RowKit Go.Shelf
attribute [local go_sem] Oper.semAt_some

/-- The block that the slice in a box owns. -/
def ownOf (B : Nat) (W : World) : Option Nat := (W.cell? ⟨B, 0, none⟩).bind Value.ownBlock
/-- What a round keeps that appends to the slice in a box. -/
structure KpB (n B : Nat) (W W' : World) : Prop where
  low : Below n W W'
  cells : ∀ k o, W.heap[k]? = some o → o.isCells = true → k ≠ B → ownOf B W ≠ some k → W'.heap[k]? = some o
  own : ∀ k, ownOf B W' = some k → (ownOf B W = some k ∨ W.heap.size ≤ k) ∧ (ownOf B W = some k ∨ k < W'.heap.size)
  size : W.heap.size ≤ W'.heap.size
theorem KpB.trans {n B : Nat} {X Y Z : World} (h : KpB n B X Y) (k : KpB n B Y Z) : KpB n B X Z := by
  refine ⟨h.low.trans k.low, fun j o hj ho hB hn => ?_, fun j hj => ?_, Nat.le_trans h.size k.size⟩
  · have hlt := (Array.getElem?_eq_some_iff.1 hj).1
    refine k.cells j o (h.cells j o hj ho hB hn) ho hB fun e => ?_
    rcases (h.own j e).1 with h1 | h1
    · exact hn h1
    · omega
  · obtain ⟨h1, h2⟩ := k.own j hj
    have hs := k.size
    have hs0 := h.size
    rcases h1 with h1 | h1
    · obtain ⟨h3, h4⟩ := h.own j h1
      exact ⟨h3, h4.imp id (fun h => by omega)⟩
    · refine ⟨.inr (by omega), ?_⟩
      rcases h2 with h2 | h2
      · exact (h.own j h2).2.imp id (fun h => by omega)
      · exact .inr h2
theorem ownOf_block {B : Nat} {W W' : World} (h : W'.heap[B]? = W.heap[B]?) : ownOf B W' = ownOf B W := by
  unfold ownOf
  rw [World.cell?_of_block (a := ⟨B, 0, none⟩) h]
theorem KpB.putObj {n B : Nat} (W : World) (l : Nat) (o o' : Obj) (hn : n ≤ l) (hB : B < l) (ho : W.heap[l]? = some o) (hc : o.isCells = false) : KpB n B W (W.putObj l o') := by
  have hlt := (Array.getElem?_eq_some_iff.1 ho).1
  have he : ownOf B (W.putObj l o') = ownOf B W := ownOf_block (World.putObj_heap_other (by omega))
  refine ⟨(Below.refl n W).grown (grownBy_putObj' W l o') (by omega) (fun k e => by cases e; omega), fun k p hk hp _ _ => ?_, fun k hk => ?_, ?_⟩
  · by_cases h : k = l
    · rw [h, ho] at hk; cases hk; rw [hc] at hp; cases hp
    · exact (World.putObj_heap_other h).trans hk
  · rw [he] at hk; exact ⟨.inl hk, .inl hk⟩
  · exact (grownBy_putObj' W l o').size
theorem abidesBelow {α : Type} {B : Nat} {J : List α → World → Prop} (h : AbidesFrom B J) {s : List α} {W W' : World} (hj : J s W) (hb : Below W.heap.size W W') : J s W' :=
  h s W W' none hj ⟨hb.os, hb.tape, hb.output, hb.size, fun k hk _ => hb.block k hk⟩ (fun r e => by cases e)
theorem ownOf_box {W : World} {B : Nat} {t : TypeId} {v : Value} (h : Boxed W B t v) : ownOf B W = v.ownBlock := by
  unfold ownOf
  rw [h.cell]
  rfl
theorem kpb_alloc {W : World} {n B : Nat} (o : Obj) (hn : n ≤ W.heap.size) (hB : B < W.heap.size) : KpB n B W (W.alloc o) := by
  have he : ownOf B (W.alloc o) = ownOf B W := ownOf_block (Below.heap_alloc W o B hB)
  refine ⟨(Below.refl n W).alloc hn o, fun k p hk _ _ _ => (Below.heap_alloc W o k (Array.getElem?_eq_some_iff.1 hk).1).trans hk, fun k hk => ?_, by simp⟩
  rw [he] at hk
  exact ⟨.inl hk, .inl hk⟩
theorem wpListIn_app {F : Fence} {n : Nat} {P : Program} (w : World) {ops : Array Oper} {rest : List Oper} {o : Oper} {a : Act} {Q : Exit → Act → World → Prop} {t e : TypeId} {z : Value} {size bytes : Nat} (E : Elem P t e z size bytes) (hgd : o.guard = none) (s x : Operand)
    (ho : o.op = .call { callee := .builtin .append, args := #[s, x], argTypes := #[t, t] }) (base : Nat)
    (v : Value) (k : Nat) (xs : List Value) (hs : a.eval s = v) (hown : w.ownsRow base e size v k xs)
    (B : Nat) (A : Option Addr) (m c : Nat) (news : List Value) (hx : a.eval x = .slice A m c) (hl : news.length = m * size) (hr : Cells w B A news) (h1 : ∀ u ∈ news, u.oneCell' = true)
    (h63 : k + m ≤ maxLen) (hbytes : (k + m) * bytes ≤ 140737488355328) (hbase : base ≤ w.heap.size)
    (h : ∀ A' c' w', App w base e size v (k + m) (xs ++ news) w' (.slice A' (k + m) c') → wpListIn F n P ops Q rest (a.put o.dst (.slice A' (k + m) c')) w') : wpListIn F n P ops Q (o :: rest) a w := by
  refine wpListIn_plain hgd fun K hK' => ?_
  obtain ⟨A', c', w', hrun, h2⟩ := run_append_own_any (P := P) w E base o.type v k xs hown B A m c news hl hr h1 h63 hbytes hbase
  unfold Oper.wpIn
  refine ⟨?_, ?_⟩
  · simp [Oper.about, ho, resolve, Target.leads, Sem.run_pure]
  · rw [Oper.semAt_plain F _ _ (by rw [ho]; intro c hc'; cases hc')]
    simp [execOp, ho, resolve, invoke, builtin, hs, hx, hrun, Result.andThen]
    exact hK' _ _ (h A' c' w' h2)
end Go.Proofs.Ytbpgaaecifnohaa
/- Layer 9: the parts, as their iterator tells them. -/
namespace Go.Proofs.Ytbpgaaecifnohaa
open Go.RowKit Go.Shelf
attribute [local go_sem] Oper.semAt_some

/-- A part, as a value. -/
def ptV (t : Nat × Nat) : Value := .agg #[.int .i64 (t.1 : Int), .int .i64 (t.2 : Int)]
theorem partsP_len (ls : List Nat) : ∀ k p, ls.length - p ≤ k → (partsP ls p).length ≤ ls.length - p
  | 0, p, h => by rw [partsP_end (by omega)]; exact Nat.zero_le _
  | k + 1, p, h => by
    by_cases hp : p < ls.length
    · have h1 := manyP_pos hp
      have ih := partsP_len ls k (p + manyP ls p) (by omega)
      have h2 := many_le hp
      rw [partsP_step hp, List.length_cons]
      omega
    · rw [partsP_end hp]
      exact Nat.zero_le _
/-- Cells that aren't the round's own stay. -/
theorem cells_kpb {W W' : World} {n B : Nat} {A : Option Addr} {xs : List Value} (h : Cells W W.heap.size A xs) (hk : KpB n B W W') (hA : ∀ a, A = some a → a.block ≠ B ∧ ownOf B W ≠ some a.block) : Cells W' W'.heap.size A xs := fun hp => by
  obtain ⟨b, o, rfl, hb, hc⟩ := h hp
  obtain ⟨h1, h2⟩ := hA _ rfl
  refine ⟨b, o, rfl, Nat.lt_of_lt_of_le hb hk.size, fun j u hu => ?_⟩
  have h3 := hc j u hu
  obtain ⟨ob, hob⟩ : ∃ ob, W.heap[b]? = some ob := ⟨_, Array.getElem?_eq_getElem hb⟩
  have h4 : ob.isCells = true := by
    unfold World.cell? at h3
    rw [hob] at h3
    cases ob <;> first | rfl | cases h3
  rw [← h3]
  exact World.cell?_of_block (a := ⟨b, o + j, none⟩) ((hk.cells b ob hob h4 h1 h2).trans hob.symm)
/-- A part of these lengths. -/
abbrev PtIn (ls : List Nat) := { t : Nat × Nat // t ∈ partsP ls 0 }
theorem seq_of_sub {α : Type} {q : α → Prop} {F : Fence} {n : Nat} {P : Program} {g : Nat} {lb : Array Value} {encs : α → Array Value} {Kp : World → World → Prop} {S Sp : List α → Prop} {N : Nat} {w : World}
    (h : SeqStopsK F n P g lb (fun x : { x : α // q x } => encs x.1) Kp (fun xs => S (xs.map (·.1))) (fun pre => Sp (pre.map (·.1))) N w) : SeqStopsK F n P g lb encs Kp S Sp N w := by
  intro l J Jx W hb hJ hJx hY h0
  refine (h l (fun pre W => J (pre.map (·.1)) W) (fun pre W => Jx (pre.map (·.1)) W) W hb (fun s => hJ _) (fun s => hJx _) (fun pre x W1 hj hlen => ?_) h0).mono ?_
  · have h1 := hY (pre.map (·.1)) x.1 W1 hj (by rw [List.length_map]; exact hlen)
    simp only [List.map_append, List.map_cons, List.map_nil]
    exact h1
  · rintro e W' ⟨hv, (⟨xs, hx, hj⟩ | ⟨pre, hp, hj⟩)⟩
    · exact ⟨hv, .inl ⟨_, hx, hj⟩⟩
    · exact ⟨hv, .inr ⟨_, hp, hj⟩⟩
set_option maxRecDepth 100000 in
set_option maxHeartbeats 2000000 in
theorem parts_seqS (n B bx : Nat) (A : Option Addr) (l c : Nat) (ls : List Nat) (w0 : World) (hl : ls.length = l) (hm : l ≤ 320) (hv : ∀ x ∈ ls, x ≤ 15) (hb : Cells w0 w0.heap.size A (nCs ls)) (hn : n ≤ w0.heap.size) (hB : B < w0.heap.size) (hBx : bx ≠ B)
    (hA : ∀ a, A = some a → a.block ≠ B) (hown : ∀ k, ownOf B w0 = some k → k ≠ bx ∧ k < w0.heap.size ∧ ∀ a, A = some a → a.block ≠ k) (h1 : Boxed w0 bx 22 (.slice A l c)) :
    SeqStopsK Fence.wide 5 Try.prog 49 #[.pointer (some ⟨bx, 0, none⟩)] (fun t : PtIn ls => #[ptV t.1]) (KpB n B) (fun xs => xs.map (·.1) = partsP ls 0) (fun pre => pre.map (·.1) <+: partsP ls 0) 321 w0 := by
  intro gy J Jx W hbl hJ hJx hY h0
  have HL := Lib.hid hl
  have h1W : Boxed W bx 22 (.slice A l c) := (hbl.block bx h1.lt).trans h1
  have hbW := (hb.below hbl (Nat.le_refl _)).more hbl.size
  have hoW : ∀ k, ownOf B W = some k → k ≠ bx ∧ k < W.heap.size ∧ ∀ a, A = some a → a.block ≠ k := fun k hk => by
    rw [ownOf_block (hbl.block B hB)] at hk
    have h1 := hown k hk
    have h2 := hbl.size
    exact ⟨h1.1, by omega, h1.2.2⟩
  have c1 : W.cell? ⟨bx, 0, none⟩ = some (.slice A l c) := h1W.cell
  have HBW : Hid (B < W.heap.size ∧ n ≤ W.heap.size ∧ bx < W.heap.size) := ⟨Nat.lt_of_lt_of_le hB hbl.size, Nat.le_trans hn hbl.size, h1W.lt⟩
  have HY := Lib.hid hY
  have H1 := Lib.hid h1W
  have HBY := Lib.hid hbW
  have HOW := Lib.hid hoW
  have HV := Lib.hid hv
  clear h1 hb hown hl hY h1W hbW hoW hbl hn hB hv
  refine callsIn_of_wp Try.func49 rfl trivial ?_ rfl
  simp only [Try.ntmps49, List.size_toArray, List.length_cons, List.length_nil, Nat.reduceAdd, Nat.reduceSub, Array.replicate_succ, Array.replicate_zero, List.push_toArray, List.append_toArray, List.nil_append, List.cons_append]
  gi_wp2
  gi_loopw [3] (fun i wr => ∃ (p : Nat) (pre : List (PtIn ls)), i = .int .i64 (p : Int) ∧ partsP ls 0 = pre.map (·.1) ++ partsP ls p ∧ p ≤ l ∧ Boxed wr bx 22 (.slice A l c) ∧ Cells wr wr.heap.size A (nCs ls) ∧
    (∀ k, ownOf B wr = some k → k ≠ bx ∧ k < wr.heap.size ∧ ∀ a, A = some a → a.block ≠ k) ∧ B < wr.heap.size ∧ n ≤ wr.heap.size ∧ J pre wr) (fun i _ => l - (intOf i).toNat)
  case atStart => exact ⟨0, [], rfl, rfl, Nat.zero_le _, H1.out, HBY.out, HOW.out, HBW.out.1, HBW.out.2.1, h0⟩
  case round =>
    obtain ⟨p, pre, rfl, htk, hpl, g1, hby, hown, hB, hnz, hJs⟩ := hrel
    have d1 : wr.cell? ⟨bx, 0, none⟩ = some (.slice A l c) := g1.cell
    have HT := Lib.hid htk
    clear htk c1
    by_cases hp : p < l
    · have HTS := Lib.hid (partsP_step (ls := ls) (p := p) (by rw [HL.out]; exact hp))
      have hm1 := manyP_pos (ls := ls) (p := p) (by rw [HL.out]; exact hp)
      have hm2 := many_le (ls := ls) (p := p) (by rw [HL.out]; exact hp)
      rw [HL.out] at hm2
      have HPT := Lib.hid (part_any A l c p ls wr.heap.size wr HL.out (by omega) hp hby (Nat.le_refl _) HV.out)
      obtain ⟨tn, htn⟩ : ∃ tn, numP ls p = tn := ⟨_, rfl⟩
      obtain ⟨td, htd⟩ : ∃ td, manyP ls p = td := ⟨_, rfl⟩
      rw [htn, htd] at HTS HPT
      rw [htd] at hm1 hm2
      have G1 := Lib.hid g1
      have GB := Lib.hid hby
      have GO := Lib.hid hown
      clear htn htd g1 hby hown
      have u1 : decide ((p : Int) < (l : Int)) = true := by simp; omega
      gi_wp2_with (refine ⟨trivial, ?_⟩; gi_at_call 50; refine (callsIn_wide.2 HPT.out).mono ?_; rintro e w5 ⟨rfl, hb5⟩; have HB5 := Lib.hid hb5; clear hb5)
      obtain ⟨W6, hW6⟩ : ∃ W6, w5.alloc (.cells #[.int .i64 (tn : Int), .int .i64 (td : Int)] 54) = W6 := ⟨_, rfl⟩
      have HB6 : Hid (Below wr.heap.size wr W6) := by show Below _ _ _; rw [← hW6]; exact HB5.out.alloc HB5.out.size _
      have HZ6 : Hid (W6.heap.size = w5.heap.size + 1) := by show _ = _; rw [← hW6]; simp
      have HX6 : Hid (W6.heap[w5.heap.size]? = some (.cells #[.int .i64 (tn : Int), .int .i64 (td : Int)] 54)) := by show _ = _; rw [← hW6]; exact heap_alloc_new w5 _
      have hJ6 : J pre W6 := abidesBelow hJ hJs HB6.out
      have hmem : (tn, td) ∈ partsP ls 0 := by
        rw [HT.out, HTS.out]
        simp
      have HPE : Hid (partsP ls 0 = (pre ++ [(⟨(tn, td), hmem⟩ : PtIn ls)]).map (·.1) ++ partsP ls (p + td)) := by
        show _ = _
        refine HT.out.trans ?_
        rw [HTS.out]
        simp
      have hlen : pre.length < 321 := by
        have h := partsP_len ls ls.length 0 (by omega)
        have := HL.out
        rw [HT.out, List.length_append, List.length_map] at h
        omega
      obtain ⟨fn, tmps, assign, body, hy, hR⟩ := HY.out pre ⟨(tn, td), hmem⟩ W6 hJ6 hlen
      simp only [ptV] at hy
      have HR := Lib.hid hR
      have HOB : Hid (ownOf B W6 = ownOf B wr) := ownOf_block (HB6.out.block B hB)
      have HBS : Hid (bx < wr.heap.size) := G1.out.lt
      clear hR hJ6
      rw [hW6, hy]
      clear hW6
      first | gi_upon | gi_wp2
      refine HR.out.mono ?_
      rintro ee W3 (⟨rfl, hJ3, hk3⟩ | ⟨rfl, hJx3⟩)
      · have hbs := HBS.out
        have m1 := hk3.cells bx _ ((HB6.out.block _ hbs).trans G1.out) rfl hBx (fun e => by rw [HOB.out] at e; exact (GO.out bx e).1 rfl)
        have hx5 := HB5.out.size
        have m5 := hk3.cells w5.heap.size _ HX6.out rfl (by omega) (fun e => by rw [HOB.out] at e; have := (GO.out _ e).2.1; omega)
        have MB := Lib.hid (cells_kpb ((GB.out.below HB6.out (Nat.le_refl _)).more HB6.out.size) hk3 (fun a ha => ⟨hA a ha, fun e => by rw [HOB.out] at e; exact (GO.out _ e).2.2 a ha rfl⟩))
        have MO : Hid (∀ k, ownOf B W3 = some k → k ≠ bx ∧ k < W3.heap.size ∧ ∀ a, A = some a → a.block ≠ k) := fun k hk => by
          have hz6 := HZ6.out
          have hs3 := hk3.size
          obtain ⟨o1, o2⟩ := hk3.own k hk
          rw [HOB.out] at o1 o2
          rcases o1 with o1 | o1
          · have h1 := GO.out k o1
            exact ⟨h1.1, by omega, h1.2.2⟩
          · rcases o2 with o2 | o2
            · have h1 := GO.out k o2
              exact ⟨h1.1, by omega, h1.2.2⟩
            · refine ⟨by omega, by omega, fun a ha => ?_⟩
              obtain ⟨b, o, hab, hbl2, _⟩ := GB.out (by rw [nCs_len, HL.out]; omega)
              rw [ha] at hab
              cases hab
              show b ≠ k
              have := HB5.out.size
              omega
        have MZ : Hid (B < W3.heap.size ∧ n ≤ W3.heap.size ∧ bx < W3.heap.size) := by
          have hz6 := HZ6.out
          have hs3 := hk3.size
          show _ ∧ _ ∧ _
          omega
        have k1' : W3.cell? ⟨w5.heap.size, 1, none⟩ = some (.int .i64 (td : Int)) := cell_of_row W3 _ 1 _ _ _ m5
        have M1 := Lib.hid m1
        have HJ3 := Lib.hid hJ3
        clear m1 m5 hJ3 hk3
        gi_wp2
        refine ⟨⟨p + td, pre ++ [⟨(tn, td), hmem⟩], by go_num, HPE.out, hm2, M1.out, MB.out, MO.out, MZ.out.1, MZ.out.2.1, HJ3.out⟩, ?_⟩
        simp [intOf]
        omega
      · gi_wp2
        refine bodyPost_ret (results_none rfl _ _ _) rfl ?_
        exact ⟨⟨_, rfl⟩, .inr ⟨pre ++ [⟨(tn, td), hmem⟩], ⟨_, HPE.out.symm⟩, hJx3⟩⟩
    · have HE := Lib.hid (partsP_end (ls := ls) (p := p) (by rw [HL.out]; omega))
      have t0 : decide ((p : Int) < (l : Int)) = false := decide_eq_false (by omega)
      clear g1 hby hown
      gi_wp2
      go_end0
      exact ⟨⟨_, rfl⟩, .inl ⟨pre, by refine Eq.symm (HT.out.trans ?_); rw [HE.out, List.append_nil], hJs⟩⟩
theorem parts_seq (n B bx : Nat) (A : Option Addr) (l c : Nat) (ls : List Nat) (w0 : World) (hl : ls.length = l) (hm : l ≤ 320) (hv : ∀ x ∈ ls, x ≤ 15) (hb : Cells w0 w0.heap.size A (nCs ls)) (hn : n ≤ w0.heap.size) (hB : B < w0.heap.size) (hBx : bx ≠ B)
    (hA : ∀ a, A = some a → a.block ≠ B) (hown : ∀ k, ownOf B w0 = some k → k ≠ bx ∧ k < w0.heap.size ∧ ∀ a, A = some a → a.block ≠ k) (h1 : Boxed w0 bx 22 (.slice A l c)) :
    SeqStopsK Fence.wide 5 Try.prog 49 #[.pointer (some ⟨bx, 0, none⟩)] (fun t : Nat × Nat => #[ptV t]) (KpB n B) (fun xs => xs = partsP ls 0) (fun pre => pre <+: partsP ls 0) 321 w0 :=
  seq_of_sub (parts_seqS n B bx A l c ls w0 hl hm hv hb hn hB hBx hA hown h1)
end Go.Proofs.Ytbpgaaecifnohaa
