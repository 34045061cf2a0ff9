/- Layer 38: plan.each: what is done with every name of several lists, one after another. -/
import Derived.Test.YtfnkbpcimbldbaaPnT
import Derived.Test.YtfnkbpcimbldbaaFiK
import Derived.WalkMore
namespace Go.Proofs.Ytfnkbpcimbldbaa
open Go.RowKit

section
variable {U : List ByteArray} {l : List Fi} (hr : Ris Fi.nm l) (hU : Ris id U) (hs : ∀ x ∈ l, x.nm ∈ U) {i : Nat} {n : ByteArray} (hn : U[i]? = some n)
include hr hU hs hn
theorem headQ_rest : headQ n (restK Fi.nm U i l) = findK Fi.nm l n ∧ tailQ n (restK Fi.nm U i l) = restK Fi.nm U (i + 1) l := by
  cases hf : findK Fi.nm l n with
  | some x =>
    rw [rest_hit hr hU hs hn hf]
    have := ((find_mem hr).1 hf).2
    exact ⟨if_pos this, if_pos this⟩
  | none =>
    rw [rest_miss hr hn hf]
    cases h : restK Fi.nm U (i + 1) l with
    | nil => exact ⟨rfl, rfl⟩
    | cons y t =>
      have h2 : ltN n y.nm = true := rest_later (k := Fi.nm) hU hs hn (y := y) (by rw [h]; exact List.mem_cons_self ..)
      have h3 : ¬ y.nm = n := fun e => by rw [e, ltN_irrefl] at h2; cases h2
      exact ⟨if_neg h3, if_neg h3⟩
omit hr in
theorem heads_rest {y : Fi} {t : List Fi} (h : restK Fi.nm U i l = y :: t) : y.nm = n ∨ ltN n y.nm = true := by
  obtain ⟨h1, h2⟩ := mem_rest.1 (show y ∈ restK Fi.nm U i l by rw [h]; exact List.mem_cons_self ..)
  by_cases e : y.nm = n
  · exact .inl e
  · refine .inr (ris_later hU hn (hs y h1) (fun h3 => ?_))
    rcases (take_mem hn).1 h3 with h3 | h3
    · exact h2 h3
    · exact e h3
end

theorem flElem : Elem Try.prog 51 22 (.slice none 0 0) 1 24 := Elem.of Try.underlying51 (by kernel_rfl) (by kernel_rfl) (by omega)
set_option maxRecDepth 100000 in
set_option maxHeartbeats 1000000 in
theorem sclone2_any (a : Addr) (m c : Nat) (qs : List FL) (B : Nat) (w : World) (hl : qs.length = m) (h0 : 0 < m) (hm : m ≤ 1000) (hb : Cells w B (some a) (qs.map FL.val)) (hB : B ≤ w.heap.size) :
    Calls Try.prog 20 #[.slice (some a) m c] w fun e w' => ∃ r c', e = .returned (.slice (some ⟨r, 0, none⟩) m c') ∧ w'.ownsRow w.heap.size 22 1 (.slice (some ⟨r, 0, none⟩) m c') m (qs.map FL.val) ∧ Below w.heap.size w w' := by
  obtain ⟨w1, hw1⟩ : ∃ w1, w.alloc (.cells #[] 22) = w1 := ⟨_, rfl⟩
  have HB1 : Hid (Below w.heap.size w w1) := by show Below _ _ _; rw [← hw1]; exact (Below.refl _ w).alloc (Nat.le_refl _) _
  have HO1 : Hid (w1.ownsRow w.heap.size 22 1 (.slice (some ⟨w.heap.size, 0, none⟩) 0 0) 0 []) := ⟨rfl, .inr ⟨w.heap.size, 0, #[], rfl, Nat.le_refl _, by rw [← hw1]; exact heap_alloc_new w _, Nat.le_refl _, by unfold maxLen; omega, rfl, rfl⟩⟩
  have HC1 := Lib.hid ((hb.more hB).below HB1.out (Nat.le_refl _))
  have HL : Hid ((qs.map FL.val).length = m * 1) := by show _ = _; rw [List.length_map, hl, Nat.mul_one]
  have hz := HB1.out.size
  have hq : ∀ V, (binOp .eql 51 (.slice (some a) m c) (.slice none 0 0)).run Try.prog V = .ok (.bool false) V := fun V => sliceNil_run V _ _ _ _ _ Try.underlying51
  have h1 : ∀ u ∈ qs.map FL.val, u.oneCell' = true := fun u hu => by
    obtain ⟨q, _, rfl⟩ := List.mem_map.1 hu
    rfl
  clear hb hB hl
  go_enter Try.func20, Try.ntmps20
  go_wp2_with (at_builtin; go_must (skip; refine wpList_app w1 flElem rfl (.tmp 5) (.tmp 6) rfl w.heap.size (.slice (some ⟨w.heap.size, 0, none⟩) 0 0) 0 [] rfl HO1.out w.heap.size (some a) m c (qs.map FL.val) rfl HL.out HC1.out h1 (by unfold maxLen; omega) (by omega) hz ?_; intro A3 c3 w3 hA; have HA := Lib.hid hA; clear hA))
  go_ret
  have ho := HA.out.own
  rw [Nat.zero_add, List.nil_append] at ho
  obtain ⟨r, rfl⟩ : ∃ r, A3 = some ⟨r, 0, none⟩ := by
    rcases ownK_form ho with ⟨_, h0⟩ | ⟨g, c', hv⟩
    · omega
    · simp only [Value.slice.injEq] at hv
      exact ⟨g, hv.1⟩
  exact ⟨r, c3, by simp, ho, HA.out.below HB1.out HB1.out.size (fun q hq => (HO1.out.lt q hq).1)⟩

set_option maxRecDepth 100000 in
set_option maxHeartbeats 4000000 in
theorem each_any (F B B2 b p q m c : Nat) (I : Nat → Nat → World → Prop) (qs : List FL) (U : List ByteArray) (w : World) (hCF : ∀ args W, Sem.run Try.prog (callFunc F args) W = .ok (.enter F args) W) (hl : qs.length = m) (h0 : 0 < m) (hm : m ≤ 1000) (hq : Cells w B2 (some ⟨b, 0, none⟩) (qs.map FL.val)) (hB2 : B2 ≤ w.heap.size)
    (he : ∀ q ∈ qs, Files w B q.ad q.fs) (hf : ∀ q ∈ qs, q.fs.length ≤ 1000000 ∧ q.fs.length ≤ q.cp ∧ 0 ≤ q.cp) (hB : B ≤ w.heap.size)
    (hr : ∀ q ∈ qs, Ris Fi.nm q.fs) (hU : Ris id U) (hUm : ∀ s, s ∈ U ↔ ∃ q ∈ qs, ∃ x ∈ q.fs, x.nm = s)
    (hI0 : ∀ r w1, Below w.heap.size w w1 → w.heap.size ≤ r → I r 0 w1) (hIk : ∀ r k w1 w2, I r k w1 → Mod (oneB r) w1 w2 → w.heap.size ≤ r → I r k w2)
    (hD : ∀ r k n h w1, U[k]? = some n → I r k w1 → Below B w w1 → w.heap.size ≤ r → r < w1.heap.size → HeldB w1 h m (qs.map fun q => findK Fi.nm q.fs n) → Calls Try.prog F #[.string n, .slice (some ⟨h, 0, none⟩) m m, .pointer (some ⟨p, 0, none⟩), .pointer (some ⟨q, 0, none⟩)] w1 fun e w2 => e = .returned (.tuple #[]) ∧ I r (k + 1) w2 ∧ Mod (fun j => B ≤ j ∧ j ≠ r) w1 w2) :
    Calls Try.prog 12 #[.func (.func F) #[] #[.pointer (some ⟨p, 0, none⟩), .pointer (some ⟨q, 0, none⟩)], .slice (some ⟨b, 0, none⟩) m c] w fun e w' => e = .returned (.tuple #[]) ∧ ∃ r, w.heap.size ≤ r ∧ I r U.length w' := by
  have HS := Lib.hid (sclone2_any ⟨b, 0, none⟩ m c qs B2 w hl h0 hm hq hB2)
  have HCF := Lib.hid hCF
  have HE := Lib.hid he
  have HF := Lib.hid hf
  have HL := Lib.hid hl
  have HB := Lib.hid hB
  have HR := Lib.hid hr
  have HU := Lib.hid hU
  have HUM := Lib.hid hUm
  have HI0 := Lib.hid hI0
  have HIK := Lib.hid hIk
  have HD := Lib.hid hD
  have HM := Lib.hid hm
  have HSU : Hid (∀ q ∈ qs, ∀ x ∈ q.fs, x.nm ∈ U) := fun q hq x hx => (hUm _).2 ⟨q, hq, x, hx, rfl⟩
  clear hq he hf hl hB hr hU hUm hI0 hIk hD hB2 h0 hCF
  go_enter Try.func12, Try.ntmps12
  go_wp2
  go_step3
  go_wp2_with (go_at_call 20; refine HS.out.mono ?_; rintro e1 w1 ⟨r, c1, rfl, ho1, hb1⟩; have HO1 := Lib.hid ho1; have HB1 := Lib.hid hb1; clear ho1 hb1)
  have HRB : Hid (w.heap.size ≤ r ∧ r < w1.heap.size) := ⟨(HO1.out.lt r rfl).1, (HO1.out.lt r rfl).2⟩
  have HB1' : Hid (Below B w w1) := ⟨HB1.out.os, HB1.out.tape, HB1.out.output, HB1.out.size, fun k hk => HB1.out.block k (by have := HB.out; omega)⟩
  go_step3
  go_wp2
  go_loopg [5, 6] U.length (fun gk _ _ wr => ∃ (k : Nat) (qs' : List FL), k + gk = U.length ∧ qs'.length = m ∧ qs'.map FL.fs = qs.map (fun q => restK Fi.nm U k q.fs) ∧ (∀ q ∈ qs', Files wr B q.ad q.fs) ∧ (∀ q ∈ qs', q.fs.length ≤ 1000000 ∧ q.fs.length ≤ q.cp ∧ 0 ≤ q.cp) ∧
    wr.ownsRow w.heap.size 22 1 (.slice (some ⟨r, 0, none⟩) m c1) m (qs'.map FL.val) ∧ I r k wr ∧ Below B w wr ∧ r < wr.heap.size)
  case atStart => exact ⟨0, qs, by omega, HL.out, by refine List.map_congr_left (fun q _ => ?_); rw [rest_zero], fun q hq => (HE.out q hq).below HB1'.out (Nat.le_refl _), HF.out, HO1.out, HI0.out r w1 HB1.out HRB.out.1, HB1'.out, HRB.out.2⟩
  case round =>
    obtain ⟨k, qs', hk, hl', hfs, hff, hbb, hown, hI, hbel, hrl⟩ := hrel
    have HL' := Lib.hid hl'
    have HFS := Lib.hid hfs
    have HFF := Lib.hid hff
    have HBB := Lib.hid hbb
    have HOWN := Lib.hid hown
    have HI := Lib.hid hI
    have HBE := Lib.hid hbel
    have HRL := Lib.hid hrl
    have HRE : Hid (Rests wr B r qs') := ⟨fun i q hq => by rw [HOWN.out.cellAt i (by have := (List.getElem?_eq_some_iff.1 hq).1; omega), List.getElem?_map, hq]; rfl, hff, fun q hq => ⟨(hbb q hq).1, .inr (hbb q hq).2.1⟩⟩
    have HMEM : Hid (∀ q' ∈ qs', ∃ q ∈ qs, q'.fs = restK Fi.nm U k q.fs) := fun q' hq' => by
      have h1 : q'.fs ∈ qs'.map FL.fs := List.mem_map.2 ⟨q', hq', rfl⟩
      rw [hfs] at h1
      obtain ⟨q, h2, h3⟩ := List.mem_map.1 h1
      exact ⟨q, h2, h3.symm⟩
    clear hl' hfs hff hbb hown hI hbel hrl
    by_cases h : k < U.length
    · obtain ⟨n, hn⟩ : ∃ n, U[k]? = some n := ⟨_, List.getElem?_eq_getElem h⟩
      have HN := Lib.hid hn
      have HLY := Lib.hid (least_yes B r m c1 qs' n wr HL'.out HM.out HRE.out (fun q' hq' y t hy => by
        obtain ⟨q, h1, h2⟩ := HMEM.out q' hq'
        rw [h2] at hy
        exact heads_rest HU.out (HSU.out q h1) hn hy) (by
        obtain ⟨q, h1, x, h2, h3⟩ := (HUM.out n).1 (List.mem_of_getElem? hn)
        have h4 : restK Fi.nm U k q.fs ∈ qs'.map FL.fs := by rw [HFS.out]; exact List.mem_map.2 ⟨q, h1, rfl⟩
        obtain ⟨q', h5, h6⟩ := List.mem_map.1 h4
        exact ⟨q', h5, x, _, h6.trans (rest_hit (HR.out q h1) HU.out (HSU.out q h1) hn ((find_mem (HR.out q h1)).2 ⟨h2, h3⟩)), h3⟩))
      have HTA := Lib.hid (take_any B w.heap.size r m c1 qs' n wr HL'.out HM.out HOWN.out HFF.out HBB.out HB.out)
      have HHE : Hid ((qs'.map FL.fs).map (headQ n) = qs.map fun q => findK Fi.nm q.fs n) := by
        show _ = _
        rw [HFS.out, List.map_map]
        exact List.map_congr_left (fun q hq => (headQ_rest (HR.out q hq) HU.out (HSU.out q hq) hn).1)
      have HTE : Hid ((qs'.map FL.fs).map (tailQ n) = qs.map fun q => restK Fi.nm U (k + 1) q.fs) := by
        show _ = _
        rw [HFS.out, List.map_map]
        exact List.map_congr_left (fun q hq => (headQ_rest (HR.out q hq) HU.out (HSU.out q hq) hn).2)
      rw [HHE.out, HTE.out] at HTA
      clear hn
      go_wp2_with (first
        | (go_at_call 21; refine HLY.out.mono ?_; rintro e2 w2 ⟨rfl, rfl⟩)
        | (go_at_call 22; refine HTA.out.mono ?_; rintro e3 w3 ⟨qs3, rfl, ho3, hf3, hb3, hm3, hh3, hd3⟩; have HO3 := Lib.hid ho3; have HF3 := Lib.hid hf3; have HB3 := Lib.hid hb3; have HM3 := Lib.hid hm3; have HH3 := Lib.hid hh3; have HD3 := Lib.hid hd3; clear ho3 hf3 hb3 hm3 hh3 hd3))
      rw [HCF.out, Oper.upon_enter]
      refine (HD.out r k n _ w3 HN.out (HIK.out r k _ _ HI.out HD3.out HRB.out.1) (HD3.out.below HBE.out (Nat.le_trans HB.out HBE.out.size) (fun p hp => by have e : p = r := hp; have := HRB.out.1; have := HB.out; omega)) HRB.out.1 (Nat.lt_of_lt_of_le HRL.out HD3.out.size) HH3.out).mono ?_
      rintro e4 w4 ⟨rfl, hi4, hm4⟩
      have HI4 := Lib.hid hi4
      have HM4 := Lib.hid hm4
      clear hi4 hm4
      go_wp2
      go_roundg (gk - 1)
      case measure => omega
      case rel =>
        have hb3 : Below B w w3 := HD3.out.below HBE.out (Nat.le_trans HB.out HBE.out.size) (fun p hp => by have e : p = r := hp; have := HRB.out.1; have := HB.out; omega)
        have hb4 : Below B w3 w4 := HM4.out.below (Below.refl _ _) (Nat.le_trans HB.out hb3.size) (fun p hp => hp.1)
        refine ⟨k + 1, qs3, by omega, by have h7 := congrArg List.length HM3.out; rw [List.length_map, List.length_map, HL.out] at h7; exact h7, HM3.out, fun q hq => (HF3.out q hq).below hb4 (Nat.le_refl _), HB3.out, own_keep HO3.out HM4.out (fun j hj hn => ?_), HI4.out, hb3.trans hb4, Nat.lt_of_lt_of_le (Nat.lt_of_lt_of_le HRL.out HD3.out.size) HM4.out.size⟩
        have h9 : r = j := by simpa [ownS, Value.ownBlock] using hj
        exact hn.2 h9.symm
    · obtain rfl : k = U.length := by omega
      have HLN := Lib.hid (least_no B r m c1 qs' wr HL'.out HM.out HRE.out (fun q' hq' => by
        obtain ⟨q, h1, h2⟩ := HMEM.out q' hq'
        rw [h2]
        exact rest_end (HSU.out q h1) (Nat.le_refl _)))
      go_wp2_with (go_at_call 21; refine HLN.out.mono ?_; rintro e2 w2 ⟨rfl, rfl⟩)
      rw [Exit.noGoto_normal]
      go_end0
      exact ⟨rfl, r, HRB.out.1, HI.out⟩
end Go.Proofs.Ytfnkbpcimbldbaa
