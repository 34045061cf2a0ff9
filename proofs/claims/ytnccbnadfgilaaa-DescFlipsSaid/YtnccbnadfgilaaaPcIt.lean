/- Layer 14: the pieces of any bytes, as their iterator tells them. -/
import Derived.Test.YtnccbnadfgilaaaPcPl
import Derived.Test.YtnccbnadfgilaaaRangeR
import Derived.Test.YtnccbnadfgilaaaDcPc
import Derived.RangeFuncBox
namespace Go.Proofs.Ytnccbnadfgilaaa
open Go.RowKit Go.Shelf CrcP FieldP
attribute [local go_sem] Oper.semAt_some

/-- The block that the slice in a box owns. -/
def ownOf (B : Nat) (W : World) : Option Nat := (W.cell? ⟨B, 0, none⟩).bind Value.ownBlock
/-- What a round keeps that appends to the slice in a box. -/
structure KpB (n B : Nat) (W W' : World) : Prop where
  low : Below n W W'
  cells : ∀ k o, W.heap[k]? = some o → o.isCells = true → k ≠ B → ownOf B W ≠ some k → W'.heap[k]? = some o
  own : ∀ k, ownOf B W' = some k → (ownOf B W = some k ∨ W.heap.size ≤ k) ∧ (ownOf B W = some k ∨ k < W'.heap.size)
  size : W.heap.size ≤ W'.heap.size
theorem KpB.trans {n B : Nat} {X Y Z : World} (h : KpB n B X Y) (k : KpB n B Y Z) : KpB n B X Z := by
  refine ⟨h.low.trans k.low, fun j o hj ho hB hn => ?_, fun j hj => ?_, Nat.le_trans h.size k.size⟩
  · have hlt := (Array.getElem?_eq_some_iff.1 hj).1
    refine k.cells j o (h.cells j o hj ho hB hn) ho hB fun e => ?_
    rcases (h.own j e).1 with h1 | h1
    · exact hn h1
    · omega
  · obtain ⟨h1, h2⟩ := k.own j hj
    have hs := k.size
    have hs0 := h.size
    rcases h1 with h1 | h1
    · obtain ⟨h3, h4⟩ := h.own j h1
      exact ⟨h3, h4.imp id (fun h => by omega)⟩
    · refine ⟨.inr (by omega), ?_⟩
      rcases h2 with h2 | h2
      · exact (h.own j h2).2.imp id (fun h => by omega)
      · exact .inr h2
theorem ownOf_block {B : Nat} {W W' : World} (h : W'.heap[B]? = W.heap[B]?) : ownOf B W' = ownOf B W := by
  unfold ownOf
  rw [World.cell?_of_block (a := ⟨B, 0, none⟩) h]
theorem KpB.putObj {n B : Nat} (W : World) (l : Nat) (o o' : Obj) (hn : n ≤ l) (hB : B < l) (ho : W.heap[l]? = some o) (hc : o.isCells = false) : KpB n B W (W.putObj l o') := by
  have hlt := (Array.getElem?_eq_some_iff.1 ho).1
  have he : ownOf B (W.putObj l o') = ownOf B W := ownOf_block (World.putObj_heap_other (by omega))
  refine ⟨(Below.refl n W).grown (grownBy_putObj' W l o') (by omega) (fun k e => by cases e; omega), fun k p hk hp _ _ => ?_, fun k hk => ?_, ?_⟩
  · by_cases h : k = l
    · rw [h, ho] at hk; cases hk; rw [hc] at hp; cases hp
    · exact (World.putObj_heap_other h).trans hk
  · rw [he] at hk; exact ⟨.inl hk, .inl hk⟩
  · exact (grownBy_putObj' W l o').size
theorem abidesOnly {α : Type} {B g : Nat} {J : List α → World → Prop} (h : AbidesS B (fun k => k = g) J) {s : List α} {W W' : World} (hj : J s W) (hb : Only g W W') : J s W' :=
  h s W W' (some g) hj ⟨hb.os, hb.tape, hb.output, hb.size, fun k hk hn => hb.block k hk hn⟩ (fun r e => by cases e; exact .inl rfl)
/-- A piece, and where its bytes lie. -/
abbrev PcV := List UInt8 × Option Addr × Nat
def pcE (x : PcV) : Array Value := #[.slice x.2.1 x.1.length x.2.2]
def pcX (x : PcV) (W : World) : Prop := Bytes W W.heap.size x.2.1 x.1 ∧ x.1.length ≤ 1000000
/-- Where a reader stands. -/
def pAt (g : Nat) (W : World) : Nat := match W.cell? ⟨g, 1, none⟩ with
  | some (.int _ p) => p.toNat
  | _ => 0
theorem pAt_of {w : World} {g : Nat} {A : Option Addr} {l c : Nat} {st : RSt} (h : RdS w g A l c st) : pAt g w = st.p := by
  obtain ⟨_, c1, _⟩ := Rd.cells h
  unfold pAt
  rw [c1]
  simp
theorem only_block {g k : Nat} {w w' : World} {o : Obj} (h : Only g w w') (hk : w.heap[k]? = some o) (hne : k ≠ g) : w'.heap[k]? = some o := (h.block k (Array.getElem?_eq_some_iff.1 hk).1 (by simpa using hne)).trans hk
set_option maxRecDepth 100000 in
set_option maxHeartbeats 800000 in
theorem pieces_seq (n B g bx : Nat) (A : Option Addr) (l c : Nat) (bs : List UInt8) (w0 : World) (hl : bs.length = l) (hm : l ≤ 1000000) (hcap : l ≤ c) (hb : Bytes w0 n A bs) (hn : n ≤ g) (hgB : g ≠ B) (hxB : bx ≠ B) (hgx : g ≠ bx) (hBl : B < w0.heap.size) (hown : ownOf B w0 = none)
    (hx : Box w0 bx #[.pointer (some ⟨g, 0, none⟩)] 61) (hr : RdS w0 g A l c ⟨0, false⟩) :
    SeqR Fence.wide 5 Try.prog 54 #[.pointer (some ⟨bx, 0, none⟩)] pcE (KpB n B) (fun k => k = g) (fun xs => xs.map (·.1) = (pcA bs).1) (fun _ => True) pcX
      (fun _ W => ∃ st, RdS W g A l c st ∧ FinP l st (pcA bs).2) (l + 1) w0 := by
  intro gy J Jx W hbl hJ hJx hY h0
  have HL := Lib.hid hl
  have HXW : Hid (Box W bx #[.pointer (some ⟨g, 0, none⟩)] 61) := (hbl.block bx hx.lt).trans hx
  have HRW : Hid (RdS W g A l c ⟨0, false⟩) := (hbl.block g hr.lt).trans hr
  have hnz : n ≤ w0.heap.size := by have := hr.lt; omega
  have HBY := Lib.hid (hb.below (hbl.mono hnz) (Nat.le_refl _))
  have HOW : Hid (ownOf B W = none) := (ownOf_block (hbl.block B hBl)).trans hown
  have HSZ : Hid (bx < W.heap.size ∧ g < W.heap.size ∧ B < W.heap.size ∧ n ≤ W.heap.size) := ⟨HXW.out.lt, HRW.out.lt, by have := hbl.size; omega, by have := hbl.size; omega⟩
  have HY := Lib.hid hY
  have HJ := Lib.hid hJ
  have HCAP := Lib.hid hcap
  clear hx hr hb hbl hown hBl hnz hY hJ hcap
  refine callsIn_of_wp Try.func54 rfl trivial ?_ rfl
  simp only [Try.ntmps54, List.size_toArray, List.length_cons, List.length_nil, Nat.reduceAdd, Nat.reduceSub, Array.replicate_succ, Array.replicate_zero, List.push_toArray, List.append_toArray, List.nil_append, List.cons_append]
  gi_wp2
  gi_loopw [3] (fun _ wr => ∃ (st : RSt) (pre : List PcV) (k : Nat), RdS wr g A l c st ∧ st.bad = false ∧ st.p ≤ l ∧ l - st.p < k ∧ pcA bs = (pre.map (·.1) ++ (pcL k (bs.drop st.p)).1, (pcL k (bs.drop st.p)).2) ∧
    Box wr bx #[.pointer (some ⟨g, 0, none⟩)] 61 ∧ Bytes wr n A bs ∧ W.heap.size ≤ wr.heap.size ∧ (∀ k, ownOf B wr = some k → W.heap.size ≤ k ∧ k < wr.heap.size) ∧ pre.length ≤ st.p ∧ J pre wr) (fun _ wr => l - pAt g wr)
  case atStart =>
    exact ⟨⟨0, false⟩, [], l + 1, HRW.out, rfl, Nat.zero_le _, by dsimp only; omega, by unfold pcA; rw [HL.out]; rfl, HXW.out, HBY.out, Nat.le_refl _, (fun k hk => by rw [HOW.out] at hk; cases hk), Nat.le_refl _, h0⟩
  case round =>
    obtain ⟨st, pre, k, hr5, hbad, hp, hk, hpc, hx5, hb5, hs5, ho5, hpre, hJ5⟩ := hrel
    obtain ⟨k, rfl⟩ : ∃ k', k = k' + 1 := ⟨k - 1, by omega⟩
    obtain ⟨⟨n1, s1⟩, h1⟩ : ∃ q, st.num bs 2 = q := ⟨_, rfl⟩
    obtain ⟨⟨r, s2⟩, h2⟩ : ∃ q, s1.row bs n1 = q := ⟨_, rfl⟩
    have hn1 : n1 < 4294967296 := by have := num_lt (bs := bs) (s := st) (k := 2) (by omega); rw [h1] at this; exact this
    have hs1 : s1.p ≤ l := by have := num_le (bs := bs) (s := st) (k := 2) (by rw [hl]; exact hp); rw [h1, hl] at this; exact this
    have hrd := pc_round (bs := bs) (st := st) (k := k) hbad (by rw [hl]; exact hp) h1 h2
    have x0 : wr.drew.cell? ⟨bx, 0, none⟩ = some (.pointer (some ⟨g, 0, none⟩)) := hx5.cell 0
    have HN : Hid (Calls Try.prog 29 #[.pointer (some ⟨g, 0, none⟩), .int .i64 2] wr.drew fun e w' => e = .returned (.int .u32 (n1 : Int)) ∧ RdS w' g A l c s1 ∧ Only g wr.drew w') := by
      have := number_st g A l c bs n st 2 2 wr.drew hr5 hl (by omega) hp (by omega) (by omega) rfl hb5
      rw [h1] at this
      exact this
    have HYB : Hid (∀ V, RdS V g A l c s1 → Bytes V n A bs → n ≤ V.heap.size → Calls Try.prog 51 #[.pointer (some ⟨g, 0, none⟩), .int .i64 (n1 : Int)] V fun e w' => ∃ A' k, e = .returned (.slice A' r.length k) ∧ OwnB w' V.heap.size 5 (.slice A' r.length k) r.length r ∧ RdS w' g A l c s2 ∧ Only g V w') := fun V hv1 hv2 hv3 => by
      have := bytes_st g A l c bs n s1 n1 V hv1 hl (by omega) HCAP.out hs1 hv2 hv3
      rw [h2] at this
      refine this.mono ?_
      rintro e w' ⟨A', m, k, rfl, ho, hr', hn'⟩
      obtain rfl : m = r.length := by have := ho.1; simpa [byteCells] using this.symm
      exact ⟨A', k, rfl, ho, hr', hn'⟩
    have HXB : Hid (∀ V, Only g wr V → V.cell? ⟨bx, 0, none⟩ = some (.pointer (some ⟨g, 0, none⟩))) := fun V hV => Box.cell (only_block hV hx5 (fun e => hgx e.symm)) 0
    have HBB : Hid (∀ V, Only g wr V → Bytes V n A bs ∧ n ≤ V.heap.size) := fun V hV => ⟨bytes_only hb5 hV (by have := HSZ.out; omega) hn, by have := hV.size; have := HSZ.out; omega⟩
    have HX5 := Lib.hid hx5
    have HRD := Lib.hid hrd
    have HPC := Lib.hid hpc
    have HO5 := Lib.hid ho5
    have HJ5 := Lib.hid hJ5
    have HS5 := Lib.hid hs5
    have HR5 := Lib.hid hr5
    have HP := Lib.hid (show st.p ≤ l ∧ l - st.p < k + 1 ∧ pre.length ≤ st.p from ⟨hp, hk, hpre⟩)
    clear hr5 hpc hx5 hb5 hs5 ho5 hJ5 h1 h2 hrd hp hk hpre hs1 hbad
    have hw1 : IntKind.i64.wrap (n1 : Int) = (n1 : Int) := IntWalk.i64_in _ (by omega)
    gi_wp2_with fail
    gi_region_with (first
      | (refine ⟨trivial, ?_⟩; gi_at_call 29; refine (callsIn_wide.2 HN.out).mono ?_; rintro e w1 ⟨rfl, hr1, hq1⟩; have HR1 := Lib.hid hr1; have HN1 := Lib.hid (only_undrew hq1); have k1 := HXB.out _ HN1.out; clear hr1 hq1)
      | (refine ⟨trivial, ?_⟩; gi_at_call 51; refine (callsIn_wide.2 (HYB.out _ HR1.out (HBB.out _ HN1.out).1 (HBB.out _ HN1.out).2)).mono ?_; rintro e w2 ⟨A2, k2, rfl, ho2, hr2, hn2⟩; have HO2 := Lib.hid ho2; have HR2 := Lib.hid hr2; have HN2 := Lib.hid (only_trans' HN1.out hn2); clear ho2 hr2 hn2))
    all_goals
      rcases HRD.out with ⟨hr0, hnil, hfin⟩ | ⟨hne, hb2, hq2, hl2, hpc2⟩
      · have HFIN := Lib.hid hfin
        have HNIL := Lib.hid hnil
        have hrb : ((r.length : Int) == 0) = true := by rw [hr0]; rfl
        have hrb' : (r.length == 0) = true := by rw [hr0]; rfl
        clear hfin hnil hr0
        gi_wp2
        all_goals
          refine ⟨(fun f h => by cases h), ?_⟩
          gi_wp2
          refine bodyPost_ret (results_none rfl _ _ _) rfl ?_
          refine ⟨⟨_, rfl⟩, .inl ⟨pre, ?_, abidesOnly HJ.out HJ5.out HN2.out, s2, HR2.out, ?_⟩⟩
          · rw [HPC.out, HNIL.out]; simp
          · rw [HPC.out, ← HL.out]; exact HFIN.out
      · have hrl : 1 ≤ r.length := by cases r with | nil => exact absurd rfl hne | cons => simp
        have hrb : ((r.length : Int) == 0) = false := by simp; omega
        have hrb' : (r.length == 0) = false := by simp; omega
        have HPC2 := Lib.hid hpc2
        have HB2 := Lib.hid hb2
        have HQ2 := Lib.hid (show st.p + 2 + r.length = s2.p ∧ s2.p ≤ bs.length from ⟨hq2, hl2⟩)
        obtain ⟨fn, tmps, assign, body, hy, hR⟩ := HY.out pre (r, A2, k2) w2 (abidesOnly HJ.out HJ5.out HN2.out) ⟨Cells.of_own HO2.out, by have := HQ2.out; have := HL.out; dsimp only; omega⟩ (by have := HP.out; omega)
        simp only [pcE] at hy
        have HR := Lib.hid hR
        clear hR hne hb2 hq2 hl2 hpc2
        gi_wp2_with fail
        refine HR.out.mono ?_
        rintro ee W3 (⟨rfl, hJ3, hk3⟩ | ⟨rfl, hJx3⟩)
        · have hsz := HSZ.out
          have hs5 := HS5.out
          have hs2 := HN2.out.size
          have hs3 := hk3.size
          have hob : ownOf B w2 = ownOf B wr := ownOf_block (HN2.out.block B (by omega) (by simpa using fun e => hgB e.symm))
          have hno : ∀ j, j < W.heap.size → ownOf B w2 ≠ some j := fun j hj e => by
            rw [hob] at e
            have := (HO5.out j e).1
            omega
          have m1 : RdS W3 g A l c s2 := hk3.cells g _ HR2.out rfl hgB (hno g hsz.2.1)
          have m2 : Box W3 bx #[.pointer (some ⟨g, 0, none⟩)] 61 := hk3.cells bx _ (only_block HN2.out HX5.out (fun e => hgx e.symm)) rfl hxB (hno bx hsz.1)
          have m3 : Bytes W3 n A bs := Cells.below (HBB.out _ HN2.out).1 hk3.low (Nat.le_refl _)
          have m4 : ∀ j, ownOf B W3 = some j → W.heap.size ≤ j ∧ j < W3.heap.size := fun j hj => by
            obtain ⟨o1, o2⟩ := hk3.own j hj
            rw [hob] at o1 o2
            constructor
            · rcases o1 with o1 | o1
              · exact (HO5.out j o1).1
              · omega
            · rcases o2 with o2 | o2
              · have := (HO5.out j o2).2; omega
              · exact o2
          have M1 := Lib.hid m1
          have M2 := Lib.hid m2
          have M3 := Lib.hid m3
          have M4 := Lib.hid m4
          have HJ3 := Lib.hid hJ3
          have MS : Hid (W.heap.size ≤ W3.heap.size) := by show _ ≤ _; omega
          have MP : Hid (l - pAt g W3 < l - pAt g wr) := by
            show _ < _
            rw [pAt_of m1, pAt_of HR5.out]
            have := HQ2.out
            have := HL.out
            omega
          clear m1 m2 m3 m4 hJ3 hk3 hob hno
          gi_wp2
          refine ⟨⟨s2, pre ++ [(r, A2, k2)], k, M1.out, HB2.out, ?_, ?_, ?_, M2.out, M3.out, MS.out, M4.out, ?_, HJ3.out⟩, MP.out⟩
          · have := HQ2.out; have := HL.out; omega
          · have := HQ2.out; have := HL.out; have := HP.out; omega
          · rw [HPC.out, HPC2.out]; simp
          · have := HQ2.out; have := HP.out; simp; omega
        · gi_wp2
          refine bodyPost_ret (results_none rfl _ _ _) rfl ?_
          exact ⟨⟨_, rfl⟩, .inr ⟨pre ++ [(r, A2, k2)], trivial, hJx3⟩⟩
end Go.Proofs.Ytnccbnadfgilaaa
