/- Layer 11: the tokens, as their iterator tells them. -/
import Derived.Test.YtglbmghpkipipaaTkLeaf
import Derived.RangeFuncBox
namespace Go.Proofs.Ytglbmghpkipipaa
open Go.RowKit Go.Shelf
attribute [local go_sem] Oper.semAt_some

/-- The block that the slice in a box owns. -/
def ownOf (B : Nat) (W : World) : Option Nat := (W.cell? ⟨B, 0, none⟩).bind Value.ownBlock
/-- What a round keeps that appends to the slice in a box. -/
structure KpB (n B : Nat) (W W' : World) : Prop where
  low : Below n W W'
  cells : ∀ k o, W.heap[k]? = some o → o.isCells = true → k ≠ B → ownOf B W ≠ some k → W'.heap[k]? = some o
  own : ∀ k, ownOf B W' = some k → (ownOf B W = some k ∨ W.heap.size ≤ k) ∧ (ownOf B W = some k ∨ k < W'.heap.size)
  size : W.heap.size ≤ W'.heap.size
theorem KpB.trans {n B : Nat} {X Y Z : World} (h : KpB n B X Y) (k : KpB n B Y Z) : KpB n B X Z := by
  refine ⟨h.low.trans k.low, fun j o hj ho hB hn => ?_, fun j hj => ?_, Nat.le_trans h.size k.size⟩
  · have hlt := (Array.getElem?_eq_some_iff.1 hj).1
    refine k.cells j o (h.cells j o hj ho hB hn) ho hB fun e => ?_
    rcases (h.own j e).1 with h1 | h1
    · exact hn h1
    · omega
  · obtain ⟨h1, h2⟩ := k.own j hj
    have hs := k.size
    have hs0 := h.size
    rcases h1 with h1 | h1
    · obtain ⟨h3, h4⟩ := h.own j h1
      exact ⟨h3, h4.imp id (fun h => by omega)⟩
    · refine ⟨.inr (by omega), ?_⟩
      rcases h2 with h2 | h2
      · exact (h.own j h2).2.imp id (fun h => by omega)
      · exact .inr h2
theorem ownOf_block {B : Nat} {W W' : World} (h : W'.heap[B]? = W.heap[B]?) : ownOf B W' = ownOf B W := by
  unfold ownOf
  rw [World.cell?_of_block (a := ⟨B, 0, none⟩) h]
theorem KpB.putObj {n B : Nat} (W : World) (l : Nat) (o o' : Obj) (hn : n ≤ l) (hB : B < l) (ho : W.heap[l]? = some o) (hc : o.isCells = false) : KpB n B W (W.putObj l o') := by
  have hlt := (Array.getElem?_eq_some_iff.1 ho).1
  have he : ownOf B (W.putObj l o') = ownOf B W := ownOf_block (World.putObj_heap_other (by omega))
  refine ⟨(Below.refl n W).grown (grownBy_putObj' W l o') (by omega) (fun k e => by cases e; omega), fun k p hk hp _ _ => ?_, fun k hk => ?_, ?_⟩
  · by_cases h : k = l
    · rw [h, ho] at hk; cases hk; rw [hc] at hp; cases hp
    · exact (World.putObj_heap_other h).trans hk
  · rw [he] at hk; exact ⟨.inl hk, .inl hk⟩
  · exact (grownBy_putObj' W l o').size
theorem abidesBelow {α : Type} {B : Nat} {J : List α → World → Prop} (h : AbidesFrom B J) {s : List α} {W W' : World} (hj : J s W) (hb : Below W.heap.size W W') : J s W' :=
  h s W W' none hj ⟨hb.os, hb.tape, hb.output, hb.size, fun k hk _ => hb.block k hk⟩ (fun r e => by cases e)
set_option maxHeartbeats 400000 in
theorem each_any (A : Option Addr) (l c : Nat) (lv : Int) (w : World) :
    Calls Try.prog 32 #[.slice A l c, .int .i64 lv] w fun e w' => e = .returned (.func (.func 37) #[] #[.pointer (some ⟨w.heap.size, 0, none⟩), .pointer (some ⟨w.heap.size + 1, 0, none⟩)]) ∧
      (w.alloc (.cells #[.slice A l c] 22)).alloc (.cells #[.int .i64 lv] 3) = w' := by
  go_enter Try.func32, Try.ntmps32
  go_wp2
  go_ret
  exact ⟨rfl, rfl⟩
set_option maxRecDepth 100000 in
set_option maxHeartbeats 2000000 in
theorem each_seq (n B b1 b2 : Nat) (A : Option Addr) (l c : Nat) (bs : List UInt8) (lv : Int) (w0 : World) (hl : bs.length = l) (hm : l ≤ 4000) (hcap : l ≤ c) (hb : Bytes w0 n A bs) (hn : n ≤ w0.heap.size) (hB : B < w0.heap.size) (hB1 : b1 ≠ B) (hB2 : b2 ≠ B) (hown : ownOf B w0 = none)
    (h1 : w0.heap[b1]? = some (.cells #[.slice A l c] 22)) (h2 : w0.heap[b2]? = some (.cells #[.int .i64 lv] 3)) :
    SeqStopsK Fence.wide 5 Try.prog 37 #[.pointer (some ⟨b1, 0, none⟩), .pointer (some ⟨b2, 0, none⟩)] (fun t : Tk => #[tkV t]) (KpB n B) (fun xs => xs = toks bs lv 0) (fun pre => pre <+: toks bs lv 0) 4001 w0 := by
  intro gy J Jx W hbl hJ hJx hY h0
  have HL := Lib.hid hl
  have h1W := (hbl.block b1 (Array.getElem?_eq_some_iff.1 h1).1).trans h1
  have h2W := (hbl.block b2 (Array.getElem?_eq_some_iff.1 h2).1).trans h2
  have hbW := hb.below (hbl.mono hn) (Nat.le_refl _)
  have hoW : ownOf B W = none := (ownOf_block (hbl.block B hB)).trans hown
  have hBW : B < W.heap.size := Nat.lt_of_lt_of_le hB hbl.size
  have c1 : W.cell? ⟨b1, 0, none⟩ = some (.slice A l c) := cell_of_row W b1 0 _ _ _ h1W
  have hnW : n ≤ W.heap.size := Nat.le_trans hn hbl.size
  have HNE := Lib.hid (new_any A l c bs n W hl hm hcap hbW hnW)
  have HY := Lib.hid hY
  have H1 := Lib.hid h1W
  have H2 := Lib.hid h2W
  have HBY := Lib.hid hbW
  have HOW := Lib.hid hoW
  have HSB : Hid (b1 < W.heap.size ∧ b2 < W.heap.size) := ⟨(Array.getElem?_eq_some_iff.1 h1W).1, (Array.getElem?_eq_some_iff.1 h2W).1⟩
  clear h1 h2 hb hown hl hY h1W h2W hbW hoW hbl hn hB
  refine callsIn_of_wp Try.func37 rfl trivial ?_ rfl
  simp only [Try.ntmps37, List.size_toArray, List.length_cons, List.length_nil, Nat.reduceAdd, Nat.reduceSub, Array.replicate_succ, Array.replicate_zero, List.push_toArray, List.append_toArray, List.nil_append, List.cons_append]
  gi_wp2_with (refine ⟨trivial, ?_⟩; gi_at_call 38; refine (callsIn_wide.2 HNE.out).mono ?_; rintro e w2 ⟨rfl, hf, hb2⟩; have HF := Lib.hid hf; have HB2 := Lib.hid hb2; clear hf hb2)
  have HGS : Hid (W.heap.size + 1 < w2.heap.size) := (Array.getElem?_eq_some_iff.1 HF.out.1).1
  gi_loopw [5] (fun i wr => ∃ (p : Nat) (pre : List Tk), i = .int .i64 (p : Int) ∧ toks bs lv 0 = pre ++ toks bs lv p ∧ p ≤ l + 258 ∧ wr.heap[b1]? = some (.cells #[.slice A l c] 22) ∧ wr.heap[b2]? = some (.cells #[.int .i64 lv] 3) ∧
    LF wr (W.heap.size + 1) W.heap.size A l c bs ∧ Bytes wr n A bs ∧ W.heap.size + 2 ≤ wr.heap.size ∧ (∀ k, ownOf B wr = some k → W.heap.size + 2 ≤ k ∧ k < wr.heap.size) ∧ J pre wr) (fun i _ => l + 259 - (intOf i).toNat)
  case atStart =>
    have hgs := HGS.out
    have hb2 := HB2.out
    exact ⟨0, [], rfl, rfl, by omega, (hb2.block _ HSB.out.1).trans H1.out, (hb2.block _ HSB.out.2).trans H2.out, HF.out, HBY.out.below (hb2.mono hnW) (Nat.le_refl _), by omega,
      (fun k hk => by rw [ownOf_block (hb2.block B hBW), HOW.out] at hk; cases hk), abidesBelow hJ h0 hb2⟩
  case round =>
    obtain ⟨p, pre, rfl, htk, hpl, g1, g2, hf, hby, hsz, hown, hJs⟩ := hrel
    have d1 : wr.cell? ⟨b1, 0, none⟩ = some (.slice A l c) := cell_of_row wr b1 0 _ _ _ g1
    have d2 : wr.cell? ⟨b2, 0, none⟩ = some (.int .i64 lv) := cell_of_row wr b2 0 _ _ _ g2
    have HT := Lib.hid htk
    clear htk c1
    by_cases hp : p < l
    · obtain ⟨t, ht⟩ : ∃ t, tokAt bs lv p = t := ⟨_, rfl⟩
      have HTS := Lib.hid (toks_step (bs := bs) (lv := lv) (p := p) (by rw [HL.out]; exact hp))
      have hTL := tokAt_le bs lv p
      have HTK := Lib.hid (token_any (W.heap.size + 1) W.heap.size A l c bs p lv wr HL.out hm hp (hby.more (by omega)) hf)
      rw [ht] at HTS HTK hTL
      clear ht
      obtain ⟨tb, tn, td⟩ := t
      simp only [tkV] at HTK
      have hts : tsz (tb, tn, td) ≤ 258 := by unfold tsz; simp only at hTL ⊢; omega
      have hts1 := tsz_pos (tb, tn, td)
      have G1 := Lib.hid g1
      have G2 := Lib.hid g2
      have GF := Lib.hid hf
      have GB := Lib.hid hby
      have GO := Lib.hid hown
      clear g1 g2 hf hby hown
      gi_wp2_with (refine ⟨trivial, ?_⟩; gi_at_call 39; refine (callsIn_wide.2 HTK.out).mono ?_; rintro e w5 ⟨rfl, hb5⟩; have HB5 := Lib.hid hb5; clear hb5)
      obtain ⟨W6, hW6⟩ : ∃ W6, w5.alloc (.cells #[.int .u8 (tb.toNat : Int), .int .i64 (tn : Int), .int .i64 (td : Int)] 32) = W6 := ⟨_, rfl⟩
      have HB6 : Hid (Below wr.heap.size wr W6) := by show Below _ _ _; rw [← hW6]; exact HB5.out.alloc HB5.out.size _
      have HZ6 : Hid (W6.heap.size = w5.heap.size + 1) := by show _ = _; rw [← hW6]; simp
      have HX6 : Hid (W6.heap[w5.heap.size]? = some (.cells #[.int .u8 (tb.toNat : Int), .int .i64 (tn : Int), .int .i64 (td : Int)] 32)) := by show _ = _; rw [← hW6]; exact heap_alloc_new w5 _
      have hJ6 : J pre W6 := abidesBelow hJ hJs HB6.out
      have HPX : Hid (pre ++ [(tb, tn, td)] <+: toks bs lv 0) := by
        show _ <+: _
        rw [HT.out, HTS.out]
        exact ⟨toks bs lv (p + tsz (tb, tn, td)), by simp⟩
      have hlen : pre.length < 4001 := by
        have h := toks_len bs lv 0
        have := HL.out
        rw [HT.out, List.length_append] at h
        omega
      obtain ⟨fn, tmps, assign, body, hy, hR⟩ := HY.out pre (tb, tn, td) W6 hJ6 hlen
      simp only [tkV] at hy
      have HR := Lib.hid hR
      have hbr : B < wr.heap.size := by omega
      have HOB : Hid (ownOf B W6 = ownOf B wr) := ownOf_block (HB6.out.block B hbr)
      clear hR hJ6
      rw [hW6, hy]
      clear hW6
      first | gi_upon | gi_wp2
      refine HR.out.mono ?_
      rintro ee W3 (⟨rfl, hJ3, hk3⟩ | ⟨rfl, hJx3⟩)
      · have hno : ∀ k, k < W.heap.size + 2 ∨ wr.heap.size ≤ k → ownOf B W6 ≠ some k := fun k hk e => by
          rw [HOB.out] at e
          have := GO.out k e
          omega
        have hsb := HSB.out
        have m1 := hk3.cells b1 _ ((HB6.out.block _ (by omega)).trans G1.out) rfl hB1 (hno _ (by omega))
        have m2 := hk3.cells b2 _ ((HB6.out.block _ (by omega)).trans G2.out) rfl hB2 (hno _ (by omega))
        have m3 := hk3.cells (W.heap.size + 1) _ ((HB6.out.block _ (by omega)).trans GF.out.1) rfl (by omega) (hno _ (by omega))
        have m4 := hk3.cells W.heap.size _ ((HB6.out.block _ (by omega)).trans GF.out.2) rfl (by omega) (hno _ (by omega))
        have hx5 := HB5.out.size
        have m5 := hk3.cells w5.heap.size _ HX6.out rfl (by omega) (hno _ (by omega))
        have MB := Lib.hid ((GB.out.below (HB6.out.mono (by omega)) (Nat.le_refl _)).below hk3.low (Nat.le_refl _))
        have MO : Hid (∀ k, ownOf B W3 = some k → W.heap.size + 2 ≤ k ∧ k < W3.heap.size) := fun k hk => by
          have hz6 := HZ6.out
          have hs3 := hk3.size
          obtain ⟨o1, o2⟩ := hk3.own k hk
          rw [HOB.out] at o1 o2
          rcases o1 with o1 | o1
          · have := GO.out k o1; omega
          · rcases o2 with o2 | o2
            · have := GO.out k o2; omega
            · omega
        have MZ : Hid (W.heap.size + 2 ≤ W3.heap.size ∧ B < W3.heap.size ∧ b1 < W3.heap.size ∧ b2 < W3.heap.size) := by
          have hz6 := HZ6.out
          have hs3 := hk3.size
          show _ ∧ _ ∧ _ ∧ _
          omega
        have k0' : W3.cell? ⟨w5.heap.size, 0, none⟩ = some (.int .u8 (tb.toNat : Int)) := cell_of_row W3 _ 0 _ _ _ m5
        have k1' : W3.cell? ⟨w5.heap.size, 1, none⟩ = some (.int .i64 (tn : Int)) := cell_of_row W3 _ 1 _ _ _ m5
        have k2' : W3.cell? ⟨w5.heap.size, 2, none⟩ = some (.int .i64 (td : Int)) := cell_of_row W3 _ 2 _ _ _ m5
        have HSI := Lib.hid (size_any (tb, tn, td) W3)
        simp only [tkV] at HSI
        obtain ⟨sz, hsz⟩ : ∃ sz, tsz (tb, tn, td) = sz := ⟨_, rfl⟩
        rw [hsz] at HSI HTS
        rw [hsz] at hts hts1
        have M1 := Lib.hid m1
        have M2 := Lib.hid m2
        have M3 := Lib.hid m3
        have M4 := Lib.hid m4
        have HJ3 := Lib.hid hJ3
        clear m1 m2 m3 m4 m5 hJ3 hk3 hno hsz
        gi_wp2_with (refine ⟨trivial, ?_⟩; gi_at_call 29; refine (callsIn_wide.2 HSI.out).mono ?_; rintro e w7 ⟨rfl, hb7⟩; have HB7 := Lib.hid hb7; clear hb7)
        have hmz := MZ.out
        have hb7 := HB7.out
        refine ⟨⟨p + sz, pre ++ [(tb, tn, td)], by go_num, by rw [HT.out, HTS.out]; simp, by omega, (hb7.block _ hmz.2.2.1).trans M1.out, (hb7.block _ hmz.2.2.2).trans M2.out,
          ⟨(hb7.block _ (by omega)).trans M3.out, (hb7.block _ (by omega)).trans M4.out⟩, MB.out.below (hb7.mono (by omega)) (Nat.le_refl _), by have := hb7.size; omega, (fun k hk => by rw [ownOf_block (hb7.block B hmz.2.1)] at hk; have := MO.out k hk; have := hb7.size; omega), abidesBelow hJ HJ3.out hb7⟩, ?_⟩
        simp [intOf]
        omega
      · gi_wp2
        refine bodyPost_ret (results_none rfl _ _ _) rfl ?_
        exact ⟨⟨_, rfl⟩, .inr ⟨pre ++ [(tb, tn, td)], HPX.out, hJx3⟩⟩
    · have HE := Lib.hid (toks_end (bs := bs) (lv := lv) (p := p) (by rw [HL.out]; omega))
      have t0 : decide ((p : Int) < (l : Int)) = false := decide_eq_false (by omega)
      clear g1 g2 hf hby hown
      gi_wp2
      go_end0
      exact ⟨⟨_, rfl⟩, .inl ⟨pre, by rw [HT.out, HE.out, List.append_nil], hJs⟩⟩
end Go.Proofs.Ytglbmghpkipipaa
