/- Layer 9: the parts, as their iterator tells them. -/
import Derived.Test.YtaknladkodibaaaGreatDoorMgQ353SRnPart
import Derived.Test.YtaknladkodibaaaGreatDoorMgQ353SKpB
import Derived.Maps.AppendAt
import Derived.Deep.Cut
import Derived.Deep.CutBlock
import Derived.Deep.DeepCutAuto
import Derived.Deep.RegionLaw
namespace Go.Proofs.YtaknladkodibaaaGreatDoor
open Go.RowKit Go.Shelf
attribute [local go_sem] Oper.semAt_some

/-- A part, as a value. -/
def ptV (t : Nat × Nat) : Value := .agg #[.int .i64 (t.1 : Int), .int .i64 (t.2 : Int)]
theorem partsP_len (ls : List Nat) : ∀ k p, ls.length - p ≤ k → (partsP ls p).length ≤ ls.length - p
  | 0, p, h => by rw [partsP_end (by omega)]; exact Nat.zero_le _
  | k + 1, p, h => by
    by_cases hp : p < ls.length
    · have h1 := manyP_pos hp
      have ih := partsP_len ls k (p + manyP ls p) (by omega)
      have h2 := many_le hp
      rw [partsP_step hp, List.length_cons]
      omega
    · rw [partsP_end hp]
      exact Nat.zero_le _
/-- Cells that aren't the round's own stay. -/
theorem cells_kpb {W W' : World} {n B : Nat} {A : Option Addr} {xs : List Value} (h : Cells W W.heap.size A xs) (hk : KpB n B W W') (hA : ∀ a, A = some a → a.block ≠ B ∧ ownOf B W ≠ some a.block) : Cells W' W'.heap.size A xs := fun hp => by
  obtain ⟨b, o, rfl, hb, hc⟩ := h hp
  obtain ⟨h1, h2⟩ := hA _ rfl
  refine ⟨b, o, rfl, Nat.lt_of_lt_of_le hb hk.size, fun j u hu => ?_⟩
  have h3 := hc j u hu
  obtain ⟨ob, hob⟩ : ∃ ob, W.heap[b]? = some ob := ⟨_, Array.getElem?_eq_getElem hb⟩
  have h4 : ob.isCells = true := by
    unfold World.cell? at h3
    rw [hob] at h3
    cases ob <;> first | rfl | cases h3
  rw [← h3]
  exact World.cell?_of_block (a := ⟨b, o + j, none⟩) ((hk.cells b ob hob h4 h1 h2).trans hob.symm)
/-- A part of these lengths. -/
abbrev PtIn (ls : List Nat) := { t : Nat × Nat // t ∈ partsP ls 0 }
set_option maxRecDepth 100000 in
set_option maxHeartbeats 2000000 in
theorem parts_seqS (n B bx : Nat) (A : Option Addr) (l c : Nat) (ls : List Nat) (w0 : World) (hl : ls.length = l) (hm : l ≤ 320) (hv : ∀ x ∈ ls, x ≤ 15) (hb : Cells w0 w0.heap.size A (nCs ls)) (hn : n ≤ w0.heap.size) (hB : B < w0.heap.size) (hBx : bx ≠ B)
    (hA : ∀ a, A = some a → a.block ≠ B) (hown : ∀ k, ownOf B w0 = some k → k ≠ bx ∧ k < w0.heap.size ∧ ∀ a, A = some a → a.block ≠ k) (h1 : Boxed w0 bx 156 (.slice A l c)) :
    SeqStopsK Fence.wide 5 Tryz.prog 220 #[.pointer (some ⟨bx, 0, none⟩)] (fun t : PtIn ls => #[ptV t.1]) (KpB n B) (fun xs => xs.map (·.1) = partsP ls 0) (fun pre => pre.map (·.1) <+: partsP ls 0) 321 w0 := by
  intro gy J Jx W hbl hJ hJx hY h0
  have HL := Lib.hid hl
  have h1W : Boxed W bx 156 (.slice A l c) := (hbl.block bx h1.lt).trans h1
  have hbW := (hb.below hbl (Nat.le_refl _)).more hbl.size
  have hoW : ∀ k, ownOf B W = some k → k ≠ bx ∧ k < W.heap.size ∧ ∀ a, A = some a → a.block ≠ k := fun k hk => by
    rw [ownOf_block (hbl.block B hB)] at hk
    have h1 := hown k hk
    have h2 := hbl.size
    exact ⟨h1.1, by omega, h1.2.2⟩
  have c1 : W.cell? ⟨bx, 0, none⟩ = some (.slice A l c) := h1W.cell
  have HBW : Hid (B < W.heap.size ∧ n ≤ W.heap.size ∧ bx < W.heap.size) := ⟨Nat.lt_of_lt_of_le hB hbl.size, Nat.le_trans hn hbl.size, h1W.lt⟩
  have HY := Lib.hid hY
  have H1 := Lib.hid h1W
  have HBY := Lib.hid hbW
  have HOW := Lib.hid hoW
  have HV := Lib.hid hv
  clear h1 hb hown hl hY h1W hbW hoW hbl hn hB hv
  refine callsIn_of_wp Tryz.func220 rfl trivial ?_ rfl
  simp only [Tryz.ntmps220, List.size_toArray, List.length_cons, List.length_nil, Nat.reduceAdd, Nat.reduceSub, Array.replicate_succ, Array.replicate_zero, List.push_toArray, List.append_toArray, List.nil_append, List.cons_append]
  gi_wp2
  gi_loopw [3] (fun i wr => ∃ (p : Nat) (pre : List (PtIn ls)), i = .int .i64 (p : Int) ∧ partsP ls 0 = pre.map (·.1) ++ partsP ls p ∧ p ≤ l ∧ Boxed wr bx 156 (.slice A l c) ∧ Cells wr wr.heap.size A (nCs ls) ∧
    (∀ k, ownOf B wr = some k → k ≠ bx ∧ k < wr.heap.size ∧ ∀ a, A = some a → a.block ≠ k) ∧ B < wr.heap.size ∧ n ≤ wr.heap.size ∧ J pre wr) (fun i _ => l - (intOf i).toNat)
  case atStart => exact ⟨0, [], rfl, rfl, Nat.zero_le _, H1.out, HBY.out, HOW.out, HBW.out.1, HBW.out.2.1, h0⟩
  case round =>
    obtain ⟨p, pre, rfl, htk, hpl, g1, hby, hown, hB, hnz, hJs⟩ := hrel
    have d1 : wr.cell? ⟨bx, 0, none⟩ = some (.slice A l c) := g1.cell
    have HT := Lib.hid htk
    clear htk c1
    by_cases hp : p < l
    · have HTS := Lib.hid (partsP_step (ls := ls) (p := p) (by rw [HL.out]; exact hp))
      have hm1 := manyP_pos (ls := ls) (p := p) (by rw [HL.out]; exact hp)
      have hm2 := many_le (ls := ls) (p := p) (by rw [HL.out]; exact hp)
      rw [HL.out] at hm2
      have HPT := Lib.hid (part_any A l c p ls wr.heap.size wr HL.out (by omega) hp hby (Nat.le_refl _) HV.out)
      obtain ⟨tn, htn⟩ : ∃ tn, numP ls p = tn := ⟨_, rfl⟩
      obtain ⟨td, htd⟩ : ∃ td, manyP ls p = td := ⟨_, rfl⟩
      rw [htn, htd] at HTS HPT
      rw [htd] at hm1 hm2
      have G1 := Lib.hid g1
      have GB := Lib.hid hby
      have GO := Lib.hid hown
      clear htn htd g1 hby hown
      have u1 : decide ((p : Int) < (l : Int)) = true := by simp; omega
      gi_wp2_with (refine ⟨trivial, ?_⟩; gi_at_call 221; refine (callsIn_wide.2 HPT.out).mono ?_; rintro e w5 ⟨rfl, hb5⟩; have HB5 := Lib.hid hb5; clear hb5)
      obtain ⟨W6, hW6⟩ : ∃ W6, w5.alloc (.cells #[.int .i64 (tn : Int), .int .i64 (td : Int)] 277) = W6 := ⟨_, rfl⟩
      have HB6 : Hid (Below wr.heap.size wr W6) := by show Below _ _ _; rw [← hW6]; exact HB5.out.alloc HB5.out.size _
      have HZ6 : Hid (W6.heap.size = w5.heap.size + 1) := by show _ = _; rw [← hW6]; simp
      have HX6 : Hid (W6.heap[w5.heap.size]? = some (.cells #[.int .i64 (tn : Int), .int .i64 (td : Int)] 277)) := by show _ = _; rw [← hW6]; exact heap_alloc_new w5 _
      have hJ6 : J pre W6 := abidesBelow hJ hJs HB6.out
      have hmem : (tn, td) ∈ partsP ls 0 := by
        rw [HT.out, HTS.out]
        simp
      have HPE : Hid (partsP ls 0 = (pre ++ [(⟨(tn, td), hmem⟩ : PtIn ls)]).map (·.1) ++ partsP ls (p + td)) := by
        show _ = _
        refine HT.out.trans ?_
        rw [HTS.out]
        simp
      have hlen : pre.length < 321 := by
        have h := partsP_len ls ls.length 0 (by omega)
        have := HL.out
        rw [HT.out, List.length_append, List.length_map] at h
        omega
      obtain ⟨fn, tmps, assign, body, hy, hR⟩ := HY.out pre ⟨(tn, td), hmem⟩ W6 hJ6 hlen
      simp only [ptV] at hy
      have HR := Lib.hid hR
      have HOB : Hid (ownOf B W6 = ownOf B wr) := ownOf_block (HB6.out.block B hB)
      have HBS : Hid (bx < wr.heap.size) := G1.out.lt
      clear hR hJ6
      rw [hW6, hy]
      clear hW6
      first | gi_upon | gi_wp2
      refine HR.out.mono ?_
      rintro ee W3 (⟨rfl, hJ3, hk3⟩ | ⟨rfl, hJx3⟩)
      · have hbs := HBS.out
        have m1 := hk3.cells bx _ ((HB6.out.block _ hbs).trans G1.out) rfl hBx (fun e => by rw [HOB.out] at e; exact (GO.out bx e).1 rfl)
        have hx5 := HB5.out.size
        have m5 := hk3.cells w5.heap.size _ HX6.out rfl (by omega) (fun e => by rw [HOB.out] at e; have := (GO.out _ e).2.1; omega)
        have MB := Lib.hid (cells_kpb ((GB.out.below HB6.out (Nat.le_refl _)).more HB6.out.size) hk3 (fun a ha => ⟨hA a ha, fun e => by rw [HOB.out] at e; exact (GO.out _ e).2.2 a ha rfl⟩))
        have MO : Hid (∀ k, ownOf B W3 = some k → k ≠ bx ∧ k < W3.heap.size ∧ ∀ a, A = some a → a.block ≠ k) := fun k hk => by
          have hz6 := HZ6.out
          have hs3 := hk3.size
          obtain ⟨o1, o2⟩ := hk3.own k hk
          rw [HOB.out] at o1 o2
          rcases o1 with o1 | o1
          · have h1 := GO.out k o1
            exact ⟨h1.1, by omega, h1.2.2⟩
          · rcases o2 with o2 | o2
            · have h1 := GO.out k o2
              exact ⟨h1.1, by omega, h1.2.2⟩
            · refine ⟨by omega, by omega, fun a ha => ?_⟩
              obtain ⟨b, o, hab, hbl2, _⟩ := GB.out (by rw [nCs_len, HL.out]; omega)
              rw [ha] at hab
              cases hab
              show b ≠ k
              have := HB5.out.size
              omega
        have MZ : Hid (B < W3.heap.size ∧ n ≤ W3.heap.size ∧ bx < W3.heap.size) := by
          have hz6 := HZ6.out
          have hs3 := hk3.size
          show _ ∧ _ ∧ _
          omega
        have k1' : W3.cell? ⟨w5.heap.size, 1, none⟩ = some (.int .i64 (td : Int)) := cell_of_row W3 _ 1 _ _ _ m5
        have M1 := Lib.hid m1
        have HJ3 := Lib.hid hJ3
        clear m1 m5 hJ3 hk3
        gi_wp2
        refine ⟨⟨p + td, pre ++ [⟨(tn, td), hmem⟩], by go_num, HPE.out, hm2, M1.out, MB.out, MO.out, MZ.out.1, MZ.out.2.1, HJ3.out⟩, ?_⟩
        simp [intOf]
        omega
      · gi_wp2
        refine bodyPost_ret (results_none rfl _ _ _) rfl ?_
        exact ⟨⟨_, rfl⟩, .inr ⟨pre ++ [⟨(tn, td), hmem⟩], ⟨_, HPE.out.symm⟩, hJx3⟩⟩
    · have HE := Lib.hid (partsP_end (ls := ls) (p := p) (by rw [HL.out]; omega))
      have t0 : decide ((p : Int) < (l : Int)) = false := decide_eq_false (by omega)
      clear g1 hby hown
      gi_wp2
      go_end0
      exact ⟨⟨_, rfl⟩, .inl ⟨pre, by refine Eq.symm (HT.out.trans ?_); rw [HE.out, List.append_nil], hJs⟩⟩
end Go.Proofs.YtaknladkodibaaaGreatDoor
/- Layer 9: all parts, as a row. -/
namespace Go.Proofs.YtaknladkodibaaaGreatDoor
open Go.RowKit Go.Shelf
attribute [local go_sem] Oper.semAt_some

/-- A part's cells. -/
def ptC (t : Nat × Nat) : List Value := [.int .i64 (t.1 : Int), .int .i64 (t.2 : Int)]
theorem ptC_one (t : Nat × Nat) : ∀ u ∈ ptC t, u.oneCell' = true := fun u hu => by
  unfold ptC at hu
  simp only [List.mem_cons, List.not_mem_nil, or_false] at hu
  rcases hu with rfl | rfl <;> rfl
end Go.Proofs.YtaknladkodibaaaGreatDoor
/- Layer 9: Parts; the chapter's example. -/
namespace Go.Proofs.YtaknladkodibaaaGreatDoor
open Go.RowKit Go.Shelf

theorem cells_of_ownP {w : World} {base : Nat} {e : TypeId} {size : Nat} {A : Option Addr} {n c : Nat} {xs : List Value} (h : w.ownsRow base e size (.slice A n c) n xs) : Cells w w.heap.size A xs := fun hp => by
  obtain ⟨hlen, hor⟩ := h
  rcases hor with ⟨h1, h2⟩ | ⟨g, cap, cur, hv, _, hg, _, _, hcells⟩
  · subst h2; rw [Nat.zero_mul] at hlen; omega
  · injection hv with ha _ _
    refine ⟨g, 0, ha, (Array.getElem?_eq_some_iff.1 hg).1, fun j u hj => ?_⟩
    rw [Nat.zero_add, cell_of_row w g j _ _ _ hg]
    obtain ⟨_, ht⟩ := hcells
    rw [← ht, List.getElem?_take] at hj
    split at hj
    · rw [← Array.getElem?_toList]; exact hj
    · cases hj
theorem parts_few (ls : List Nat) : (partsP ls 0).length ≤ ls.length := by
  have := partsP_len ls ls.length 0 (by omega)
  omega
theorem nCs_ic (ls : List Nat) : (ls.map (fun n : Nat => (n : Int))).map ic = nCs ls := by
  rw [List.map_map]
  rfl
theorem all_right {ls : List Nat} (hv : ∀ x ∈ ls, x ≤ 15) : (ls.map (fun n : Nat => (n : Int))).all lenB = true := by
  rw [List.all_eq_true]
  intro x hx
  obtain ⟨n, hn, rfl⟩ := List.mem_map.1 hx
  have := hv n hn
  simp [lenB]
  omega
end Go.Proofs.YtaknladkodibaaaGreatDoor
/- Layer 9: the cells of a row of parts. -/
namespace Go.Proofs.YtaknladkodibaaaGreatDoor
open Go.RowKit

theorem ptC_at : ∀ {ps : List (Nat × Nat)} {k : Nat} {t : Nat × Nat}, ps[k]? = some t → ((ps.map ptC).flatten)[k * 2]? = some (.int .i64 (t.1 : Int)) ∧ ((ps.map ptC).flatten)[k * 2 + 1]? = some (.int .i64 (t.2 : Int))
  | [], k, t, h => by simp at h
  | p :: ps, 0, t, h => by
    obtain rfl : p = t := by simpa using h
    exact ⟨rfl, rfl⟩
  | p :: ps, k + 1, t, h => by
    have h2 := ptC_at (ps := ps) (k := k) (t := t) (by simpa using h)
    have e : ((p :: ps).map ptC).flatten = ptC p ++ (ps.map ptC).flatten := rfl
    have hl : (ptC p).length = 2 := rfl
    rw [e, List.getElem?_append_right (by omega), List.getElem?_append_right (by omega), hl, show (k + 1) * 2 - 2 = k * 2 by omega, show (k + 1) * 2 + 1 - 2 = k * 2 + 1 by omega]
    exact h2
theorem ptC_len (ps : List (Nat × Nat)) : ((ps.map ptC).flatten).length = ps.length * 2 := by
  induction ps with
  | nil => rfl
  | cons p ps ih =>
    show (ptC p ++ (ps.map ptC).flatten).length = _
    rw [List.length_append, ih, List.length_cons]
    show 2 + _ = _
    omega
end Go.Proofs.YtaknladkodibaaaGreatDoor
/- Layer 9: the reference's Parts. -/
namespace Go.Proofs.YtaknladkodibaaaGreatDoor
open Go.RowKit Go.Shelf

theorem refPElem : Elem Tryz.prog 239 242 (.agg #[.int .i64 0, .int .i64 0]) 2 16 := Elem.of Tryz.underlying239 (by kernel_rfl) (by kernel_rfl) (by omega)
theorem ptC_cellsP (W : World) (t : Nat × Nat) : Cells (W.alloc (.cells #[.int .i64 (t.1 : Int), .int .i64 (t.2 : Int)] 242)) (W.heap.size + 1) (some ⟨W.heap.size, 0, none⟩) (ptC t) := fun _ =>
  ⟨W.heap.size, 0, rfl, by omega, fun j u hu => by
    rw [Nat.zero_add, cell_of_row _ W.heap.size j _ _ _ (heap_alloc_new W _), ← Array.getElem?_toList]
    exact hu⟩
theorem below_drewP {B : Nat} {a w : World} (h : Below B a w) (n : Nat) : Below B a (w.drewN n) := ⟨h.os, h.tape, h.output, h.size, h.block⟩
/-- A box of a part. -/
def PB (W : World) (g : Nat) (t : Nat × Nat) : Prop := W.heap[g]? = some (.cells #[.int .i64 (t.1 : Int), .int .i64 (t.2 : Int)] 242 (0, 0))
section
variable {W : World} {g : Nat} {t : Nat × Nat}
theorem PB.c0 (h : PB W g t) : W.cell? ⟨g, 0, none⟩ = some (.int .i64 (t.1 : Int)) := cell_of_row W g 0 _ _ _ h
theorem PB.c1 (h : PB W g t) : W.cell? ⟨g, 1, none⟩ = some (.int .i64 (t.2 : Int)) := cell_of_row W g 1 _ _ _ h
theorem PB.f0 (h : PB W g t) (i : Nat) : W.frozen? ⟨g, i, none⟩ = false := frozen_of_row W g i _ _ h
theorem PB.set (h : PB W g t) (a b : Nat) : PB ((W.setCell ⟨g, 0, none⟩ (.int .i64 (a : Int))).setCell ⟨g, 1, none⟩ (.int .i64 (b : Int))) g (a, b) := by
  have h1 := heap_setCell_same _ g 1 _ _ (.int .i64 (b : Int)) (heap_setCell_same W g 0 _ _ (.int .i64 (a : Int)) h)
  exact h1
theorem PB.set1 (h : PB W g t) (b : Nat) : PB (W.setCell ⟨g, 1, none⟩ (.int .i64 (b : Int))) g (t.1, b) := by
  have h1 := heap_setCell_same W g 1 _ _ (.int .i64 (b : Int)) h
  exact h1
end
set_option maxRecDepth 100000 in
set_option maxHeartbeats 8000000 in
theorem rparts_any (A : Option Addr) (l c : Nat) (ls : List Nat) (B : Nat) (w : World) (hl : ls.length = l) (hm : l ≤ 1000) (hv : ∀ x ∈ ls, x ≤ 15) (hb : Cells w B A (nCs ls)) (hB : B ≤ w.heap.size) :
    Calls Tryz.prog 165 #[.slice A l c] w fun e w' => ∃ A' c', e = .returned (.slice A' (partsP ls 0).length c') ∧ w'.ownsRow w.heap.size 242 2 (.slice A' (partsP ls 0).length c') (partsP ls 0).length ((partsP ls 0).map ptC).flatten ∧ Below w.heap.size w w' := by
  have HL := Lib.hid hl
  have HC := Lib.hid hb
  have HV := Lib.hid hv
  have HBZ := Lib.hid hB
  clear hb hl hv hB
  go_enter Tryz.func165, Tryz.ntmps165
  go_wp2
  go_loopg [3, 4] (l + 1) (fun gk v i wr => ∃ (p : Nat) (pre : List (Nat × Nat)), p + gk = l + 1 ∧ i = .int .i64 (p : Int) ∧ partsP ls 0 = pre ++ partsP ls p ∧ p ≤ l ∧ pre.length ≤ p ∧ wr.ownsRow w.heap.size 242 2 v pre.length (pre.map ptC).flatten ∧ Below w.heap.size w wr)
  case atStart => exact ⟨0, [], by omega, rfl, rfl, by omega, Nat.le_refl _, World.ownsRow_nil _ _ _ _, Below.refl _ _⟩
  case round =>
    obtain ⟨p, pre, hpg, rfl, htk, hpl, hpp, hrow, hbl⟩ := hrel
    obtain ⟨Av, cv, rfl⟩ := own_form' hrow
    have HT := Lib.hid htk
    have HROW := Lib.hid hrow
    have HBL := Lib.hid hbl
    clear htk hrow hbl
    by_cases hp : p < l
    · have t0 : decide ((p : Int) < (l : Int)) = true := decide_eq_true (by omega)
      have HTS := Lib.hid (partsP_step (ls := ls) (p := p) (by rw [HL.out]; exact hp))
      have hmpos := manyP_pos (ls := ls) (p := p) (by rw [HL.out]; exact hp)
      have hmle := many_le (ls := ls) (p := p) (by rw [HL.out]; exact hp)
      rw [HL.out] at hmle
      have hr1 := runL_pos (ls := ls) (p := p) (by rw [HL.out]; exact hp)
      have hr2 := runL_le ls p
      rw [HL.out] at hr2
      have hmn : manyP ls p = min (runL ls p) (mostP (numP ls p)) := rfl
      obtain ⟨r, hr⟩ : ∃ r, runL ls p = r := ⟨_, rfl⟩
      have HIN : Hid (∀ j : Nat, j < r → ls[p + j]? = some (ls.getD p 0)) := fun j hj => runL_in (by rw [hr]; exact hj)
      have HOUT : Hid (∀ x : Nat, ls[p + r]? = some x → x ≠ ls.getD p 0) := fun x hx => runL_out (by rw [hr]; exact hx)
      have hnu : numP ls p = if ls.getD p 0 = 0 ∧ 11 ≤ r then 18 else if ls.getD p 0 = 0 ∧ 3 ≤ r then 17 else if 0 < p ∧ ls.getD p 0 = ls.getD (p - 1) 0 ∧ 3 ≤ r then 16 else ls.getD p 0 := by rw [numP, hr]
      obtain ⟨h, hh⟩ : ∃ h, ls.getD p 0 = h := ⟨_, rfl⟩
      have hh15 : h ≤ 15 := by rw [← hh]; exact getD_le HV.out p
      rw [hh] at HIN HOUT hnu
      have hh0 : ls[p]? = some h := by have := HIN.out 0 (by omega); simpa using this
      rw [hr] at hr1 hr2 hmn
      obtain ⟨b, o, rfl, hbB, hc⟩ := HC.out (by rw [nCs_len, HL.out]; omega)
      have HCL : Hid (∀ (k n : Nat) (Z : World), ls[k]? = some n → Below w.heap.size w Z → Z.cell? ⟨b, o + k, none⟩ = some (.int .i64 (n : Int))) := fun k n Z hn hZ => (hZ.cell (p := ⟨b, o + k, none⟩) (by show b < _; have := HBZ.out; omega)).trans (hc k _ (nCs_at hn))
      obtain ⟨w0, hw0⟩ : ∃ w0, w0 = wr := ⟨_, rfl⟩
      subst hw0
      clear hc hr
      go_upto_block 2 with fail
      go_cut [5] (fun n wx => n = .int .i64 (r : Nat) ∧ ∃ m, wx = w0.drewN m)
      case first =>
        go_wp2
        go_loopg [5] (r - 1) (fun gj n wr => ∃ j m : Nat, 1 ≤ j ∧ j + gj = r ∧ n = .int .i64 j ∧ wr = w0.drewN m)
        case atStart => exact ⟨1, 0, by omega, by omega, rfl, rfl⟩
        case round =>
          obtain ⟨j, m, hj1, hj, rfl, hwm⟩ := hrel
          have hBLm : Below w.heap.size w wr := by rw [hwm]; exact below_drewP HBL.out m
          have HWM := Lib.hid hwm
          clear hwm
          have cp := HCL.out p h wr hh0 hBLm
          by_cases hjr : j < r
          · have u1 : decide ((p : Int) + (j : Int) < (l : Int)) = true := by simp; omega
            have u1' : decide (p + j < l) = true := by simp; omega
            have v1 : (p : Int) + (j : Int) < (l : Int) := by omega
            have v1' : p + j < l := by omega
            have cj := HCL.out (p + j) h wr (HIN.out j hjr) hBLm
            have u2 : ((h : Int) == (h : Int)) = true := by simp
            clear hh0 hBLm
            go_upto_region 5 with (fail)
            go_quiet (fail)
            go_wp2
            go_roundg (gk - 1)
            case measure => omega
            case rel => exact ⟨j + 1, m + nq, by omega, by omega, by go_num, by rw [HWM.out, World.drewN_drewN]⟩
          · obtain rfl : j = r := by omega
            by_cases hlt : p + j < l
            · obtain ⟨y, hy⟩ : ∃ y, ls[p + j]? = some y := ⟨_, List.getElem?_eq_getElem (by have := HL.out; omega)⟩
              have cj := HCL.out (p + j) y wr hy hBLm
              have hne := HOUT.out y hy
              have u1 : decide ((p : Int) + (j : Int) < (l : Int)) = true := by simp; omega
              have u1' : decide (p + j < l) = true := by simp; omega
              have v1 : (p : Int) + (j : Int) < (l : Int) := by omega
              have v1' : p + j < l := by omega
              have u2 : ((y : Int) == (h : Int)) = false := by simp; omega
              have u2' : (y == h) = false := by simp; omega
              have u3 : ¬ ((y : Int) = (h : Int)) := by omega
              clear hy hh0 hBLm
              go_upto_region 5 with (fail)
              go_quiet (fail)
              go_wp2
              go_meet
              case rel => exact ⟨rfl, m + nq, by rw [HWM.out, World.drewN_drewN]⟩
            · have u1 : decide ((p : Int) + (j : Int) < (l : Int)) = false := by simp; omega
              have u1' : decide (p + j < l) = false := by simp; omega
              have v1 : ¬ ((p : Int) + (j : Int) < (l : Int)) := by omega
              clear hlt hh0 hBLm
              go_upto_region 5 with (fail)
              go_quiet (fail)
              go_wp2
              go_meet
              case rel => exact ⟨rfl, m + nq, by rw [HWM.out, World.drewN_drewN]⟩
      case rest =>
        obtain ⟨rfl, m, rfl⟩ := hcut
        obtain ⟨w1, hw1⟩ : ∃ w1, w0.drewN m = w1 := ⟨_, rfl⟩
        have HB1 : Hid (Below w.heap.size w w1) := by rw [← hw1]; exact below_drewP HBL.out m
        have HROW1 : Hid (w1.ownsRow w.heap.size 242 2 (.slice Av pre.length cv) pre.length (pre.map ptC).flatten) := by rw [← hw1]; exact HROW.out
        rw [hw1]
        clear hw1
        obtain ⟨bx, hbx⟩ : ∃ bx, w1.heap.size = bx := ⟨_, rfl⟩
        have HBX := Lib.hid hbx
        obtain ⟨V0, hV0⟩ : ∃ V0, w1.alloc (.cells #[.int .i64 (h : Int), .int .i64 1] 242) = V0 := ⟨_, rfl⟩
        have HP0 : Hid (PB V0 bx (h, 1)) := by rw [← hV0, ← hbx]; exact heap_alloc_new w1 _
        have HB0 : Hid (Below bx w1 V0) := by rw [← hV0, ← hbx]; exact (Below.refl _ _).alloc (Nat.le_refl _) _
        have hlens : ∀ Z, Below bx w1 Z → Below w.heap.size w Z := fun Z hZ => HB1.out.trans (hZ.mono (by rw [← hbx]; exact HB1.out.size))
        have HLN := Lib.hid hlens
        have c0 := HCL.out p h w1 hh0 HB1.out
        clear hlens HBL HROW
        have HZ0 : Hid (V0.heap.size = bx + 1) := by rw [← hV0, ← hbx]; show _ = _; simp
        have hh15b : h = 0 ∨ 1 ≤ h := by omega
        go_upto_region 8 with fail
        clear hV0 hbx c0
        rcases hh15b with hz | hz
        · obtain rfl : h = 0 := hz
          by_cases r2 : r ≤ 2
          · have HNU : Hid (numP ls p = 0) := by show _ = _; rw [hnu]; rw [if_neg (by omega), if_neg (by omega), if_neg (by omega)]
            have HMA : Hid (manyP ls p = 1) := by show _ = _; rw [hmn, HNU.out]; unfold mostP; simp; omega
            rw [HMA.out] at hmpos hmle
            have t2 : decide ((2 : Int) < (r : Int)) = false := decide_eq_false (by omega)
            have t2' : ¬ ((2 : Int) < (r : Int)) := by omega
            have t2n : ¬ (2 < r) := by omega
            have t10 : decide ((10 : Int) < (r : Int)) = false := decide_eq_false (by omega)
            have t10' : ¬ ((10 : Int) < (r : Int)) := by omega
            have t10n : ¬ (10 < r) := by omega
            have t138 : decide ((138 : Int) < (r : Int)) = false := decide_eq_false (by omega)
            have t138' : ¬ ((138 : Int) < (r : Int)) := by omega
            have t138n : ¬ (138 < r) := by omega
            clear hnu hmn
            have e0 := HP0.out.c0
            have e1 := HP0.out.c1
            have f0 := HP0.out.f0 0
            have f1 := HP0.out.f0 1
            have c0 := HCL.out p 0 V0 hh0 (HLN.out V0 HB0.out)
            go_upto_region 14 with fail
            go_quiet (fail)
            obtain ⟨V1, hV⟩ : ∃ V1, V0.drewN nq = V1 := ⟨_, rfl⟩
            have HP1 : Hid (PB V1 bx (0, 1)) := by rw [← hV]; exact HP0.out
            have HBV1 : Hid (Below bx w1 V1) := by rw [← hV]; exact below_drewP HB0.out nq
            have HZV1 : Hid (V1.heap.size = bx + 1) := by rw [← hV]; exact HZ0.out
            rw [hV]
            clear hV
            clear e0 e1 f0 f1 c0
            have e0 := HP1.out.c0
            have e1 := HP1.out.c1
            have f0 := HP1.out.f0 0
            have f1 := HP1.out.f0 1
            have c0 := HCL.out p 0 V1 hh0 (HLN.out V1 HBV1.out)
            have HRf : Hid (V1.ownsRow w.heap.size 242 2 (.slice Av pre.length cv) pre.length (pre.map ptC).flatten) := own_keep HROW1.out (Mod.of_below (by rw [HBX.out]; exact HBV1.out)) (fun _ _ h => h)
            have HVZ : Hid (w.heap.size ≤ V1.heap.size) := by have := HZV1.out; have := HB1.out.size; have := HBX.out; show _ ≤ _; omega
            go_wp2_with (at_builtin; refine wpList_app _ refPElem rfl _ _ rfl w.heap.size (.slice Av pre.length cv) pre.length _ rfl (HRf.out.alloc _) (V1.heap.size + 1) (some ⟨V1.heap.size, 0, none⟩) 1 1 (ptC (0, 1)) rfl rfl (ptC_cellsP V1 (0, 1)) (ptC_one _) (by unfold maxLen; omega) (by omega) (by have := HVZ.out; simp; omega) ?_; intro A8 c8 w8 hap; have hg8 : w8.heap[bx]? = _ := (hap.grow.block bx (by have := HZV1.out; simp; omega) (fun e => by have := own_lt HROW1.out bx e.symm; have := HBX.out; omega)).trans ((Below.heap_alloc V1 _ bx (by have := HZV1.out; omega)).trans HP1.out); have q1 : w8.cell? ⟨bx, 1, none⟩ = some (.int .i64 ((1 : Nat) : Int)) := cell_of_row w8 bx 1 _ _ _ hg8; have HAP := Lib.hid hap; clear hap hg8)
            go_roundg (gk - 1)
            case measure => omega
            case rel =>
              refine ⟨p + 1, pre ++ [(0, 1)], by omega, by go_num, by rw [HT.out, HTS.out, HNU.out, HMA.out]; simp, by omega, by simp; omega, by simpa using HAP.out.own, ?_⟩
              exact HAP.out.below ((HLN.out _ HBV1.out).alloc HVZ.out _) (by have := HVZ.out; simp; omega) (own_base HRf.out)
          by_cases r10 : r ≤ 10
          · have HNU : Hid (numP ls p = 17) := by show _ = _; rw [hnu]; rw [if_neg (by omega), if_pos (by omega)]
            have HMA : Hid (manyP ls p = r) := by show _ = _; rw [hmn, HNU.out]; unfold mostP; simp; omega
            rw [HMA.out] at hmpos hmle
            have t2 : decide ((2 : Int) < (r : Int)) = true := decide_eq_true (by omega)
            have t2' : (2 : Int) < (r : Int) := by omega
            have t2n : 2 < r := by omega
            have t10 : decide ((10 : Int) < (r : Int)) = false := decide_eq_false (by omega)
            have t10' : ¬ ((10 : Int) < (r : Int)) := by omega
            have t10n : ¬ (10 < r) := by omega
            have t138 : decide ((138 : Int) < (r : Int)) = false := decide_eq_false (by omega)
            have t138' : ¬ ((138 : Int) < (r : Int)) := by omega
            have t138n : ¬ (138 < r) := by omega
            clear hnu hmn
            have e0 := HP0.out.c0
            have e1 := HP0.out.c1
            have f0 := HP0.out.f0 0
            have f1 := HP0.out.f0 1
            have c0 := HCL.out p 0 V0 hh0 (HLN.out V0 HB0.out)
            go_upto_region 10 with fail
            obtain ⟨V1, hV⟩ : ∃ V1, (V0.setCell ⟨bx, 0, none⟩ (.int .i64 17)).setCell ⟨bx, 1, none⟩ (.int .i64 (r : Int)) = V1 := ⟨_, rfl⟩
            have HP1 : Hid (PB V1 bx (17, r)) := by rw [← hV]; exact HP0.out.set 17 r
            have HBV1 : Hid (Below bx w1 V1) := by rw [← hV]; exact (HB0.out.setCell (p := ⟨bx, 0, none⟩) (Nat.le_refl _) _).setCell (p := ⟨bx, 1, none⟩) (Nat.le_refl _) _
            have HZV1 : Hid (V1.heap.size = bx + 1) := by rw [← hV]; show _ = _; simp [World.setCell, HZ0.out]
            rw [hV]
            clear hV
            clear e0 e1 f0 f1 c0
            have e0 := HP1.out.c0
            have e1 := HP1.out.c1
            have f0 := HP1.out.f0 0
            have f1 := HP1.out.f0 1
            have c0 := HCL.out p 0 V1 hh0 (HLN.out V1 HBV1.out)
            go_upto_region 14 with fail
            go_quiet (fail)
            obtain ⟨V2, hV⟩ : ∃ V2, V1.drewN nq = V2 := ⟨_, rfl⟩
            have HP2 : Hid (PB V2 bx (17, r)) := by rw [← hV]; exact HP1.out
            have HBV2 : Hid (Below bx w1 V2) := by rw [← hV]; exact below_drewP HBV1.out nq
            have HZV2 : Hid (V2.heap.size = bx + 1) := by rw [← hV]; exact HZV1.out
            rw [hV]
            clear hV
            clear e0 e1 f0 f1 c0
            have e0 := HP2.out.c0
            have e1 := HP2.out.c1
            have f0 := HP2.out.f0 0
            have f1 := HP2.out.f0 1
            have c0 := HCL.out p 0 V2 hh0 (HLN.out V2 HBV2.out)
            have HRf : Hid (V2.ownsRow w.heap.size 242 2 (.slice Av pre.length cv) pre.length (pre.map ptC).flatten) := own_keep HROW1.out (Mod.of_below (by rw [HBX.out]; exact HBV2.out)) (fun _ _ h => h)
            have HVZ : Hid (w.heap.size ≤ V2.heap.size) := by have := HZV2.out; have := HB1.out.size; have := HBX.out; show _ ≤ _; omega
            go_wp2_with (at_builtin; refine wpList_app _ refPElem rfl _ _ rfl w.heap.size (.slice Av pre.length cv) pre.length _ rfl (HRf.out.alloc _) (V2.heap.size + 1) (some ⟨V2.heap.size, 0, none⟩) 1 1 (ptC (17, r)) rfl rfl (ptC_cellsP V2 (17, r)) (ptC_one _) (by unfold maxLen; omega) (by omega) (by have := HVZ.out; simp; omega) ?_; intro A8 c8 w8 hap; have hg8 : w8.heap[bx]? = _ := (hap.grow.block bx (by have := HZV2.out; simp; omega) (fun e => by have := own_lt HROW1.out bx e.symm; have := HBX.out; omega)).trans ((Below.heap_alloc V2 _ bx (by have := HZV2.out; omega)).trans HP2.out); have q1 : w8.cell? ⟨bx, 1, none⟩ = some (.int .i64 ((r : Nat) : Int)) := cell_of_row w8 bx 1 _ _ _ hg8; have HAP := Lib.hid hap; clear hap hg8)
            go_roundg (gk - r)
            case measure => omega
            case rel =>
              refine ⟨p + r, pre ++ [(17, r)], by omega, by go_num, by rw [HT.out, HTS.out, HNU.out, HMA.out]; simp, by omega, by simp; omega, by simpa using HAP.out.own, ?_⟩
              exact HAP.out.below ((HLN.out _ HBV2.out).alloc HVZ.out _) (by have := HVZ.out; simp; omega) (own_base HRf.out)
          by_cases r138 : r ≤ 138
          · have HNU : Hid (numP ls p = 18) := by show _ = _; rw [hnu]; rw [if_pos (by omega)]
            have HMA : Hid (manyP ls p = r) := by show _ = _; rw [hmn, HNU.out]; unfold mostP; simp; omega
            rw [HMA.out] at hmpos hmle
            have t2 : decide ((2 : Int) < (r : Int)) = true := decide_eq_true (by omega)
            have t2' : (2 : Int) < (r : Int) := by omega
            have t2n : 2 < r := by omega
            have t10 : decide ((10 : Int) < (r : Int)) = true := decide_eq_true (by omega)
            have t10' : (10 : Int) < (r : Int) := by omega
            have t10n : 10 < r := by omega
            have t138 : decide ((138 : Int) < (r : Int)) = false := decide_eq_false (by omega)
            have t138' : ¬ ((138 : Int) < (r : Int)) := by omega
            have t138n : ¬ (138 < r) := by omega
            clear hnu hmn
            have e0 := HP0.out.c0
            have e1 := HP0.out.c1
            have f0 := HP0.out.f0 0
            have f1 := HP0.out.f0 1
            have c0 := HCL.out p 0 V0 hh0 (HLN.out V0 HB0.out)
            go_upto_region 10 with fail
            obtain ⟨V1, hV⟩ : ∃ V1, (V0.setCell ⟨bx, 0, none⟩ (.int .i64 17)).setCell ⟨bx, 1, none⟩ (.int .i64 (r : Int)) = V1 := ⟨_, rfl⟩
            have HP1 : Hid (PB V1 bx (17, r)) := by rw [← hV]; exact HP0.out.set 17 r
            have HBV1 : Hid (Below bx w1 V1) := by rw [← hV]; exact (HB0.out.setCell (p := ⟨bx, 0, none⟩) (Nat.le_refl _) _).setCell (p := ⟨bx, 1, none⟩) (Nat.le_refl _) _
            have HZV1 : Hid (V1.heap.size = bx + 1) := by rw [← hV]; show _ = _; simp [World.setCell, HZ0.out]
            rw [hV]
            clear hV
            clear e0 e1 f0 f1 c0
            have e0 := HP1.out.c0
            have e1 := HP1.out.c1
            have f0 := HP1.out.f0 0
            have f1 := HP1.out.f0 1
            have c0 := HCL.out p 0 V1 hh0 (HLN.out V1 HBV1.out)
            go_upto_region 12 with fail
            obtain ⟨V2, hV⟩ : ∃ V2, (V1.setCell ⟨bx, 0, none⟩ (.int .i64 18)).setCell ⟨bx, 1, none⟩ (.int .i64 (r : Int)) = V2 := ⟨_, rfl⟩
            have HP2 : Hid (PB V2 bx (18, r)) := by rw [← hV]; exact HP1.out.set 18 r
            have HBV2 : Hid (Below bx w1 V2) := by rw [← hV]; exact (HBV1.out.setCell (p := ⟨bx, 0, none⟩) (Nat.le_refl _) _).setCell (p := ⟨bx, 1, none⟩) (Nat.le_refl _) _
            have HZV2 : Hid (V2.heap.size = bx + 1) := by rw [← hV]; show _ = _; simp [World.setCell, HZV1.out]
            rw [hV]
            clear hV
            clear e0 e1 f0 f1 c0
            have e0 := HP2.out.c0
            have e1 := HP2.out.c1
            have f0 := HP2.out.f0 0
            have f1 := HP2.out.f0 1
            have c0 := HCL.out p 0 V2 hh0 (HLN.out V2 HBV2.out)
            go_upto_region 14 with fail
            go_quiet (fail)
            obtain ⟨V3, hV⟩ : ∃ V3, V2.drewN nq = V3 := ⟨_, rfl⟩
            have HP3 : Hid (PB V3 bx (18, r)) := by rw [← hV]; exact HP2.out
            have HBV3 : Hid (Below bx w1 V3) := by rw [← hV]; exact below_drewP HBV2.out nq
            have HZV3 : Hid (V3.heap.size = bx + 1) := by rw [← hV]; exact HZV2.out
            rw [hV]
            clear hV
            clear e0 e1 f0 f1 c0
            have e0 := HP3.out.c0
            have e1 := HP3.out.c1
            have f0 := HP3.out.f0 0
            have f1 := HP3.out.f0 1
            have c0 := HCL.out p 0 V3 hh0 (HLN.out V3 HBV3.out)
            have HRf : Hid (V3.ownsRow w.heap.size 242 2 (.slice Av pre.length cv) pre.length (pre.map ptC).flatten) := own_keep HROW1.out (Mod.of_below (by rw [HBX.out]; exact HBV3.out)) (fun _ _ h => h)
            have HVZ : Hid (w.heap.size ≤ V3.heap.size) := by have := HZV3.out; have := HB1.out.size; have := HBX.out; show _ ≤ _; omega
            go_wp2_with (at_builtin; refine wpList_app _ refPElem rfl _ _ rfl w.heap.size (.slice Av pre.length cv) pre.length _ rfl (HRf.out.alloc _) (V3.heap.size + 1) (some ⟨V3.heap.size, 0, none⟩) 1 1 (ptC (18, r)) rfl rfl (ptC_cellsP V3 (18, r)) (ptC_one _) (by unfold maxLen; omega) (by omega) (by have := HVZ.out; simp; omega) ?_; intro A8 c8 w8 hap; have hg8 : w8.heap[bx]? = _ := (hap.grow.block bx (by have := HZV3.out; simp; omega) (fun e => by have := own_lt HROW1.out bx e.symm; have := HBX.out; omega)).trans ((Below.heap_alloc V3 _ bx (by have := HZV3.out; omega)).trans HP3.out); have q1 : w8.cell? ⟨bx, 1, none⟩ = some (.int .i64 ((r : Nat) : Int)) := cell_of_row w8 bx 1 _ _ _ hg8; have HAP := Lib.hid hap; clear hap hg8)
            go_roundg (gk - r)
            case measure => omega
            case rel =>
              refine ⟨p + r, pre ++ [(18, r)], by omega, by go_num, by rw [HT.out, HTS.out, HNU.out, HMA.out]; simp, by omega, by simp; omega, by simpa using HAP.out.own, ?_⟩
              exact HAP.out.below ((HLN.out _ HBV3.out).alloc HVZ.out _) (by have := HVZ.out; simp; omega) (own_base HRf.out)
          · have HNU : Hid (numP ls p = 18) := by show _ = _; rw [hnu]; rw [if_pos (by omega)]
            have HMA : Hid (manyP ls p = 138) := by show _ = _; rw [hmn, HNU.out]; unfold mostP; simp; omega
            rw [HMA.out] at hmpos hmle
            have t2 : decide ((2 : Int) < (r : Int)) = true := decide_eq_true (by omega)
            have t2' : (2 : Int) < (r : Int) := by omega
            have t2n : 2 < r := by omega
            have t10 : decide ((10 : Int) < (r : Int)) = true := decide_eq_true (by omega)
            have t10' : (10 : Int) < (r : Int) := by omega
            have t10n : 10 < r := by omega
            have t138 : decide ((138 : Int) < (r : Int)) = true := decide_eq_true (by omega)
            have t138' : (138 : Int) < (r : Int) := by omega
            have t138n : 138 < r := by omega
            clear hnu hmn
            have e0 := HP0.out.c0
            have e1 := HP0.out.c1
            have f0 := HP0.out.f0 0
            have f1 := HP0.out.f0 1
            have c0 := HCL.out p 0 V0 hh0 (HLN.out V0 HB0.out)
            go_upto_region 10 with fail
            obtain ⟨V1, hV⟩ : ∃ V1, (V0.setCell ⟨bx, 0, none⟩ (.int .i64 17)).setCell ⟨bx, 1, none⟩ (.int .i64 (r : Int)) = V1 := ⟨_, rfl⟩
            have HP1 : Hid (PB V1 bx (17, r)) := by rw [← hV]; exact HP0.out.set 17 r
            have HBV1 : Hid (Below bx w1 V1) := by rw [← hV]; exact (HB0.out.setCell (p := ⟨bx, 0, none⟩) (Nat.le_refl _) _).setCell (p := ⟨bx, 1, none⟩) (Nat.le_refl _) _
            have HZV1 : Hid (V1.heap.size = bx + 1) := by rw [← hV]; show _ = _; simp [World.setCell, HZ0.out]
            rw [hV]
            clear hV
            clear e0 e1 f0 f1 c0
            have e0 := HP1.out.c0
            have e1 := HP1.out.c1
            have f0 := HP1.out.f0 0
            have f1 := HP1.out.f0 1
            have c0 := HCL.out p 0 V1 hh0 (HLN.out V1 HBV1.out)
            go_upto_region 12 with fail
            obtain ⟨V2, hV⟩ : ∃ V2, (V1.setCell ⟨bx, 0, none⟩ (.int .i64 18)).setCell ⟨bx, 1, none⟩ (.int .i64 (r : Int)) = V2 := ⟨_, rfl⟩
            have HP2 : Hid (PB V2 bx (18, r)) := by rw [← hV]; exact HP1.out.set 18 r
            have HBV2 : Hid (Below bx w1 V2) := by rw [← hV]; exact (HBV1.out.setCell (p := ⟨bx, 0, none⟩) (Nat.le_refl _) _).setCell (p := ⟨bx, 1, none⟩) (Nat.le_refl _) _
            have HZV2 : Hid (V2.heap.size = bx + 1) := by rw [← hV]; show _ = _; simp [World.setCell, HZV1.out]
            rw [hV]
            clear hV
            clear e0 e1 f0 f1 c0
            have e0 := HP2.out.c0
            have e1 := HP2.out.c1
            have f0 := HP2.out.f0 0
            have f1 := HP2.out.f0 1
            have c0 := HCL.out p 0 V2 hh0 (HLN.out V2 HBV2.out)
            go_upto_region 14 with fail
            obtain ⟨V3, hV⟩ : ∃ V3, V2.setCell ⟨bx, 1, none⟩ (.int .i64 138) = V3 := ⟨_, rfl⟩
            have HP3 : Hid (PB V3 bx (18, 138)) := by rw [← hV]; exact HP2.out.set1 138
            have HBV3 : Hid (Below bx w1 V3) := by rw [← hV]; exact HBV2.out.setCell (p := ⟨bx, 1, none⟩) (Nat.le_refl _) _
            have HZV3 : Hid (V3.heap.size = bx + 1) := by rw [← hV]; show _ = _; simp [World.setCell, HZV2.out]
            rw [hV]
            clear hV
            clear e0 e1 f0 f1 c0
            have e0 := HP3.out.c0
            have e1 := HP3.out.c1
            have f0 := HP3.out.f0 0
            have f1 := HP3.out.f0 1
            have c0 := HCL.out p 0 V3 hh0 (HLN.out V3 HBV3.out)
            go_upto_region 14 with fail
            go_quiet (fail)
            obtain ⟨V4, hV⟩ : ∃ V4, V3.drewN nq = V4 := ⟨_, rfl⟩
            have HP4 : Hid (PB V4 bx (18, 138)) := by rw [← hV]; exact HP3.out
            have HBV4 : Hid (Below bx w1 V4) := by rw [← hV]; exact below_drewP HBV3.out nq
            have HZV4 : Hid (V4.heap.size = bx + 1) := by rw [← hV]; exact HZV3.out
            rw [hV]
            clear hV
            clear e0 e1 f0 f1 c0
            have e0 := HP4.out.c0
            have e1 := HP4.out.c1
            have f0 := HP4.out.f0 0
            have f1 := HP4.out.f0 1
            have c0 := HCL.out p 0 V4 hh0 (HLN.out V4 HBV4.out)
            have HRf : Hid (V4.ownsRow w.heap.size 242 2 (.slice Av pre.length cv) pre.length (pre.map ptC).flatten) := own_keep HROW1.out (Mod.of_below (by rw [HBX.out]; exact HBV4.out)) (fun _ _ h => h)
            have HVZ : Hid (w.heap.size ≤ V4.heap.size) := by have := HZV4.out; have := HB1.out.size; have := HBX.out; show _ ≤ _; omega
            go_wp2_with (at_builtin; refine wpList_app _ refPElem rfl _ _ rfl w.heap.size (.slice Av pre.length cv) pre.length _ rfl (HRf.out.alloc _) (V4.heap.size + 1) (some ⟨V4.heap.size, 0, none⟩) 1 1 (ptC (18, 138)) rfl rfl (ptC_cellsP V4 (18, 138)) (ptC_one _) (by unfold maxLen; omega) (by omega) (by have := HVZ.out; simp; omega) ?_; intro A8 c8 w8 hap; have hg8 : w8.heap[bx]? = _ := (hap.grow.block bx (by have := HZV4.out; simp; omega) (fun e => by have := own_lt HROW1.out bx e.symm; have := HBX.out; omega)).trans ((Below.heap_alloc V4 _ bx (by have := HZV4.out; omega)).trans HP4.out); have q1 : w8.cell? ⟨bx, 1, none⟩ = some (.int .i64 ((138 : Nat) : Int)) := cell_of_row w8 bx 1 _ _ _ hg8; have HAP := Lib.hid hap; clear hap hg8)
            go_roundg (gk - 138)
            case measure => omega
            case rel =>
              refine ⟨p + 138, pre ++ [(18, 138)], by omega, by go_num, by rw [HT.out, HTS.out, HNU.out, HMA.out]; simp, by omega, by simp; omega, by simpa using HAP.out.own, ?_⟩
              exact HAP.out.below ((HLN.out _ HBV4.out).alloc HVZ.out _) (by have := HVZ.out; simp; omega) (own_base HRf.out)
        · by_cases p0 : p = 0
          · have HNU : Hid (numP ls p = h) := by show _ = _; rw [hnu]; rw [if_neg (by omega), if_neg (by omega), if_neg (by omega)]
            have HMA : Hid (manyP ls p = 1) := by show _ = _; rw [hmn, HNU.out]; rw [show mostP h = 1 by unfold mostP; rw [if_neg (by omega), if_neg (by omega), if_neg (by omega)]]; omega
            rw [HMA.out] at hmpos hmle
            have v1 : ((h : Int) == 0) = false := by simp; omega
            have v1a : ((h : Int) != 0) = true := by simp; omega
            have v1b : ¬ ((h : Int) = 0) := by omega
            have v1c : (h == 0) = false := by simp; omega
            have v1d : (h != 0) = true := by simp; omega
            have v1e : ¬ (h = 0) := by omega
            have tp : decide ((0 : Int) < (p : Int)) = false := decide_eq_false (by omega)
            have tpn : ¬ ((0 : Int) < (p : Int)) := by omega
            have tpd : decide (0 < p) = false := decide_eq_false (by omega)
            clear p0 tpn
            clear hnu hmn
            have e0 := HP0.out.c0
            have e1 := HP0.out.c1
            have f0 := HP0.out.f0 0
            have f1 := HP0.out.f0 1
            have c0 := HCL.out p h V0 hh0 (HLN.out V0 HB0.out)
            go_upto_region 12 with fail
            go_cut [67] (fun s wx => s = .bool false ∧ V0 = wx)
            case first =>
              by_cases hx : 138 < r
              · have t5 : decide ((138 : Int) < (r : Int)) = true := decide_eq_true (by omega)
                have t5' : (138 : Int) < (r : Int) := by omega
                go_wp2
                go_meet
                case rel => exact ⟨rfl, rfl⟩
              · have t5 : decide ((138 : Int) < (r : Int)) = false := decide_eq_false (by omega)
                go_wp2
                go_meet
                case rel => exact ⟨rfl, rfl⟩
            case rest =>
              obtain ⟨rfl, rfl⟩ := hcut
              go_upto_region 14 with fail
              go_quiet (fail)
              obtain ⟨V1, hV⟩ : ∃ V1, V0.drewN nq = V1 := ⟨_, rfl⟩
              have HP1 : Hid (PB V1 bx (h, 1)) := by rw [← hV]; exact HP0.out
              have HBV1 : Hid (Below bx w1 V1) := by rw [← hV]; exact below_drewP HB0.out nq
              have HZV1 : Hid (V1.heap.size = bx + 1) := by rw [← hV]; exact HZ0.out
              rw [hV]
              clear hV
              clear e0 e1 f0 f1 c0
              have e0 := HP1.out.c0
              have e1 := HP1.out.c1
              have f0 := HP1.out.f0 0
              have f1 := HP1.out.f0 1
              have c0 := HCL.out p h V1 hh0 (HLN.out V1 HBV1.out)
              have HRf : Hid (V1.ownsRow w.heap.size 242 2 (.slice Av pre.length cv) pre.length (pre.map ptC).flatten) := own_keep HROW1.out (Mod.of_below (by rw [HBX.out]; exact HBV1.out)) (fun _ _ h => h)
              have HVZ : Hid (w.heap.size ≤ V1.heap.size) := by have := HZV1.out; have := HB1.out.size; have := HBX.out; show _ ≤ _; omega
              go_wp2_with (at_builtin; refine wpList_app _ refPElem rfl _ _ rfl w.heap.size (.slice Av pre.length cv) pre.length _ rfl (HRf.out.alloc _) (V1.heap.size + 1) (some ⟨V1.heap.size, 0, none⟩) 1 1 (ptC (h, 1)) rfl rfl (ptC_cellsP V1 (h, 1)) (ptC_one _) (by unfold maxLen; omega) (by omega) (by have := HVZ.out; simp; omega) ?_; intro A8 c8 w8 hap; have hg8 : w8.heap[bx]? = _ := (hap.grow.block bx (by have := HZV1.out; simp; omega) (fun e => by have := own_lt HROW1.out bx e.symm; have := HBX.out; omega)).trans ((Below.heap_alloc V1 _ bx (by have := HZV1.out; omega)).trans HP1.out); have q1 : w8.cell? ⟨bx, 1, none⟩ = some (.int .i64 ((1 : Nat) : Int)) := cell_of_row w8 bx 1 _ _ _ hg8; have HAP := Lib.hid hap; clear hap hg8)
              go_roundg (gk - 1)
              case measure => omega
              case rel =>
                refine ⟨p + 1, pre ++ [(h, 1)], by omega, by go_num, by rw [HT.out, HTS.out, HNU.out, HMA.out]; simp, by omega, by simp; omega, by simpa using HAP.out.own, ?_⟩
                exact HAP.out.below ((HLN.out _ HBV1.out).alloc HVZ.out _) (by have := HVZ.out; simp; omega) (own_base HRf.out)
          obtain ⟨y, hy⟩ : ∃ y, ls.getD (p - 1) 0 = y := ⟨_, rfl⟩
          obtain ⟨pm, hpm⟩ : ∃ pm, p - 1 = pm := ⟨_, rfl⟩
          rw [hy] at hnu
          rw [hpm] at hy
          have hy0 : ls[pm]? = some y := by rw [List.getElem?_eq_getElem (by have := HL.out; omega), ← hy]; simp [List.getD, show pm < ls.length by have := HL.out; omega]
          have hpm2 : (p : Int) - 1 = (pm : Int) := by omega
          have hpl2 : pm < l := by omega
          have HCY : Hid (∀ Z, Below w.heap.size w Z → Z.cell? ⟨b, o + pm, none⟩ = some (.int .i64 (y : Int))) := fun Z hZ => HCL.out pm y Z hy0 hZ
          clear hy hy0
          have tp : decide ((0 : Int) < (p : Int)) = true := decide_eq_true (by omega)
          have tpn : (0 : Int) < (p : Int) := by omega
          have tpm : 0 < p := by omega
          have cy := HCY.out V0 (HLN.out V0 HB0.out)
          by_cases hyh : h = y
          · by_cases r2 : r ≤ 2
            · have HNU : Hid (numP ls p = h) := by show _ = _; rw [hnu]; rw [if_neg (by omega), if_neg (by omega), if_neg (by omega)]
              have HMA : Hid (manyP ls p = 1) := by show _ = _; rw [hmn, HNU.out]; rw [show mostP h = 1 by unfold mostP; rw [if_neg (by omega), if_neg (by omega), if_neg (by omega)]]; omega
              rw [HMA.out] at hmpos hmle
              have v1 : ((h : Int) == 0) = false := by simp; omega
              have v1a : ((h : Int) != 0) = true := by simp; omega
              have v1b : ¬ ((h : Int) = 0) := by omega
              have v1c : (h == 0) = false := by simp; omega
              have v1d : (h != 0) = true := by simp; omega
              have v1e : ¬ (h = 0) := by omega
              have ty : ((y : Int) == (h : Int)) = true := by simp; omega
              have ty' : (y : Int) = (h : Int) := by omega
              have tyn : (y == h) = true := by simp; omega
              have t2 : decide ((2 : Int) < (r : Int)) = false := decide_eq_false (by omega)
              have t2' : ¬ ((2 : Int) < (r : Int)) := by omega
              have t2n : ¬ (2 < r) := by omega
              clear hnu hmn
              have e0 := HP0.out.c0
              have e1 := HP0.out.c1
              have f0 := HP0.out.f0 0
              have f1 := HP0.out.f0 1
              have c0 := HCL.out p h V0 hh0 (HLN.out V0 HB0.out)
              go_upto_region 12 with fail
              go_cut [67] (fun s wx => s = .bool false ∧ V0 = wx)
              case first =>
                by_cases hx : 138 < r
                · have t5 : decide ((138 : Int) < (r : Int)) = true := decide_eq_true (by omega)
                  have t5' : (138 : Int) < (r : Int) := by omega
                  go_wp2
                  go_meet
                  case rel => exact ⟨rfl, rfl⟩
                · have t5 : decide ((138 : Int) < (r : Int)) = false := decide_eq_false (by omega)
                  go_wp2
                  go_meet
                  case rel => exact ⟨rfl, rfl⟩
              case rest =>
                obtain ⟨rfl, rfl⟩ := hcut
                go_upto_region 14 with fail
                go_quiet (fail)
                obtain ⟨V1, hV⟩ : ∃ V1, V0.drewN nq = V1 := ⟨_, rfl⟩
                have HP1 : Hid (PB V1 bx (h, 1)) := by rw [← hV]; exact HP0.out
                have HBV1 : Hid (Below bx w1 V1) := by rw [← hV]; exact below_drewP HB0.out nq
                have HZV1 : Hid (V1.heap.size = bx + 1) := by rw [← hV]; exact HZ0.out
                rw [hV]
                clear hV
                clear e0 e1 f0 f1 c0
                have e0 := HP1.out.c0
                have e1 := HP1.out.c1
                have f0 := HP1.out.f0 0
                have f1 := HP1.out.f0 1
                have c0 := HCL.out p h V1 hh0 (HLN.out V1 HBV1.out)
                have HRf : Hid (V1.ownsRow w.heap.size 242 2 (.slice Av pre.length cv) pre.length (pre.map ptC).flatten) := own_keep HROW1.out (Mod.of_below (by rw [HBX.out]; exact HBV1.out)) (fun _ _ h => h)
                have HVZ : Hid (w.heap.size ≤ V1.heap.size) := by have := HZV1.out; have := HB1.out.size; have := HBX.out; show _ ≤ _; omega
                go_wp2_with (at_builtin; refine wpList_app _ refPElem rfl _ _ rfl w.heap.size (.slice Av pre.length cv) pre.length _ rfl (HRf.out.alloc _) (V1.heap.size + 1) (some ⟨V1.heap.size, 0, none⟩) 1 1 (ptC (h, 1)) rfl rfl (ptC_cellsP V1 (h, 1)) (ptC_one _) (by unfold maxLen; omega) (by omega) (by have := HVZ.out; simp; omega) ?_; intro A8 c8 w8 hap; have hg8 : w8.heap[bx]? = _ := (hap.grow.block bx (by have := HZV1.out; simp; omega) (fun e => by have := own_lt HROW1.out bx e.symm; have := HBX.out; omega)).trans ((Below.heap_alloc V1 _ bx (by have := HZV1.out; omega)).trans HP1.out); have q1 : w8.cell? ⟨bx, 1, none⟩ = some (.int .i64 ((1 : Nat) : Int)) := cell_of_row w8 bx 1 _ _ _ hg8; have HAP := Lib.hid hap; clear hap hg8)
                go_roundg (gk - 1)
                case measure => omega
                case rel =>
                  refine ⟨p + 1, pre ++ [(h, 1)], by omega, by go_num, by rw [HT.out, HTS.out, HNU.out, HMA.out]; simp, by omega, by simp; omega, by simpa using HAP.out.own, ?_⟩
                  exact HAP.out.below ((HLN.out _ HBV1.out).alloc HVZ.out _) (by have := HVZ.out; simp; omega) (own_base HRf.out)
            by_cases r6 : r ≤ 6
            · have HNU : Hid (numP ls p = 16) := by show _ = _; rw [hnu]; rw [if_neg (by omega), if_neg (by omega), if_pos (by omega)]
              have HMA : Hid (manyP ls p = r) := by show _ = _; rw [hmn, HNU.out]; unfold mostP; simp; omega
              rw [HMA.out] at hmpos hmle
              have v1 : ((h : Int) == 0) = false := by simp; omega
              have v1a : ((h : Int) != 0) = true := by simp; omega
              have v1b : ¬ ((h : Int) = 0) := by omega
              have v1c : (h == 0) = false := by simp; omega
              have v1d : (h != 0) = true := by simp; omega
              have v1e : ¬ (h = 0) := by omega
              have ty : ((y : Int) == (h : Int)) = true := by simp; omega
              have ty' : (y : Int) = (h : Int) := by omega
              have tyn : (y == h) = true := by simp; omega
              have t2 : decide ((2 : Int) < (r : Int)) = true := decide_eq_true (by omega)
              have t2' : (2 : Int) < (r : Int) := by omega
              have t2n : 2 < r := by omega
              have t6 : decide ((6 : Int) < (r : Int)) = false := decide_eq_false (by omega)
              have t6' : ¬ ((6 : Int) < (r : Int)) := by omega
              have t6n : ¬ (6 < r) := by omega
              clear hnu hmn
              have e0 := HP0.out.c0
              have e1 := HP0.out.c1
              have f0 := HP0.out.f0 0
              have f1 := HP0.out.f0 1
              have c0 := HCL.out p h V0 hh0 (HLN.out V0 HB0.out)
              go_upto_region 12 with fail
              go_cut [67] (fun s wx => s = .bool false ∧ V0 = wx)
              case first =>
                by_cases hx : 138 < r
                · have t5 : decide ((138 : Int) < (r : Int)) = true := decide_eq_true (by omega)
                  have t5' : (138 : Int) < (r : Int) := by omega
                  go_wp2
                  go_meet
                  case rel => exact ⟨rfl, rfl⟩
                · have t5 : decide ((138 : Int) < (r : Int)) = false := decide_eq_false (by omega)
                  go_wp2
                  go_meet
                  case rel => exact ⟨rfl, rfl⟩
              case rest =>
                obtain ⟨rfl, rfl⟩ := hcut
                go_upto_region 14 with fail
                go_quiet (fail)
                obtain ⟨V1, hV⟩ : ∃ V1, V0.drewN nq = V1 := ⟨_, rfl⟩
                have HP1 : Hid (PB V1 bx (h, 1)) := by rw [← hV]; exact HP0.out
                have HBV1 : Hid (Below bx w1 V1) := by rw [← hV]; exact below_drewP HB0.out nq
                have HZV1 : Hid (V1.heap.size = bx + 1) := by rw [← hV]; exact HZ0.out
                rw [hV]
                clear hV
                clear e0 e1 f0 f1 c0
                have e0 := HP1.out.c0
                have e1 := HP1.out.c1
                have f0 := HP1.out.f0 0
                have f1 := HP1.out.f0 1
                have c0 := HCL.out p h V1 hh0 (HLN.out V1 HBV1.out)
                go_upto_region 16 with fail
                obtain ⟨V2, hV⟩ : ∃ V2, (V1.setCell ⟨bx, 0, none⟩ (.int .i64 16)).setCell ⟨bx, 1, none⟩ (.int .i64 (r : Int)) = V2 := ⟨_, rfl⟩
                have HP2 : Hid (PB V2 bx (16, r)) := by rw [← hV]; exact HP1.out.set 16 r
                have HBV2 : Hid (Below bx w1 V2) := by rw [← hV]; exact (HBV1.out.setCell (p := ⟨bx, 0, none⟩) (Nat.le_refl _) _).setCell (p := ⟨bx, 1, none⟩) (Nat.le_refl _) _
                have HZV2 : Hid (V2.heap.size = bx + 1) := by rw [← hV]; show _ = _; simp [World.setCell, HZV1.out]
                rw [hV]
                clear hV
                clear e0 e1 f0 f1 c0
                have e0 := HP2.out.c0
                have e1 := HP2.out.c1
                have f0 := HP2.out.f0 0
                have f1 := HP2.out.f0 1
                have c0 := HCL.out p h V2 hh0 (HLN.out V2 HBV2.out)
                have HRf : Hid (V2.ownsRow w.heap.size 242 2 (.slice Av pre.length cv) pre.length (pre.map ptC).flatten) := own_keep HROW1.out (Mod.of_below (by rw [HBX.out]; exact HBV2.out)) (fun _ _ h => h)
                have HVZ : Hid (w.heap.size ≤ V2.heap.size) := by have := HZV2.out; have := HB1.out.size; have := HBX.out; show _ ≤ _; omega
                go_wp2_with (at_builtin; refine wpList_app _ refPElem rfl _ _ rfl w.heap.size (.slice Av pre.length cv) pre.length _ rfl (HRf.out.alloc _) (V2.heap.size + 1) (some ⟨V2.heap.size, 0, none⟩) 1 1 (ptC (16, r)) rfl rfl (ptC_cellsP V2 (16, r)) (ptC_one _) (by unfold maxLen; omega) (by omega) (by have := HVZ.out; simp; omega) ?_; intro A8 c8 w8 hap; have hg8 : w8.heap[bx]? = _ := (hap.grow.block bx (by have := HZV2.out; simp; omega) (fun e => by have := own_lt HROW1.out bx e.symm; have := HBX.out; omega)).trans ((Below.heap_alloc V2 _ bx (by have := HZV2.out; omega)).trans HP2.out); have q1 : w8.cell? ⟨bx, 1, none⟩ = some (.int .i64 ((r : Nat) : Int)) := cell_of_row w8 bx 1 _ _ _ hg8; have HAP := Lib.hid hap; clear hap hg8)
                go_roundg (gk - r)
                case measure => omega
                case rel =>
                  refine ⟨p + r, pre ++ [(16, r)], by omega, by go_num, by rw [HT.out, HTS.out, HNU.out, HMA.out]; simp, by omega, by simp; omega, by simpa using HAP.out.own, ?_⟩
                  exact HAP.out.below ((HLN.out _ HBV2.out).alloc HVZ.out _) (by have := HVZ.out; simp; omega) (own_base HRf.out)
            · have HNU : Hid (numP ls p = 16) := by show _ = _; rw [hnu]; rw [if_neg (by omega), if_neg (by omega), if_pos (by omega)]
              have HMA : Hid (manyP ls p = 6) := by show _ = _; rw [hmn, HNU.out]; unfold mostP; simp; omega
              rw [HMA.out] at hmpos hmle
              have v1 : ((h : Int) == 0) = false := by simp; omega
              have v1a : ((h : Int) != 0) = true := by simp; omega
              have v1b : ¬ ((h : Int) = 0) := by omega
              have v1c : (h == 0) = false := by simp; omega
              have v1d : (h != 0) = true := by simp; omega
              have v1e : ¬ (h = 0) := by omega
              have ty : ((y : Int) == (h : Int)) = true := by simp; omega
              have ty' : (y : Int) = (h : Int) := by omega
              have tyn : (y == h) = true := by simp; omega
              have t2 : decide ((2 : Int) < (r : Int)) = true := decide_eq_true (by omega)
              have t2' : (2 : Int) < (r : Int) := by omega
              have t2n : 2 < r := by omega
              have t6 : decide ((6 : Int) < (r : Int)) = true := decide_eq_true (by omega)
              have t6' : (6 : Int) < (r : Int) := by omega
              have t6n : 6 < r := by omega
              clear hnu hmn
              have e0 := HP0.out.c0
              have e1 := HP0.out.c1
              have f0 := HP0.out.f0 0
              have f1 := HP0.out.f0 1
              have c0 := HCL.out p h V0 hh0 (HLN.out V0 HB0.out)
              go_upto_region 12 with fail
              go_cut [67] (fun s wx => s = .bool false ∧ V0 = wx)
              case first =>
                by_cases hx : 138 < r
                · have t5 : decide ((138 : Int) < (r : Int)) = true := decide_eq_true (by omega)
                  have t5' : (138 : Int) < (r : Int) := by omega
                  go_wp2
                  go_meet
                  case rel => exact ⟨rfl, rfl⟩
                · have t5 : decide ((138 : Int) < (r : Int)) = false := decide_eq_false (by omega)
                  go_wp2
                  go_meet
                  case rel => exact ⟨rfl, rfl⟩
              case rest =>
                obtain ⟨rfl, rfl⟩ := hcut
                go_upto_region 14 with fail
                go_quiet (fail)
                obtain ⟨V1, hV⟩ : ∃ V1, V0.drewN nq = V1 := ⟨_, rfl⟩
                have HP1 : Hid (PB V1 bx (h, 1)) := by rw [← hV]; exact HP0.out
                have HBV1 : Hid (Below bx w1 V1) := by rw [← hV]; exact below_drewP HB0.out nq
                have HZV1 : Hid (V1.heap.size = bx + 1) := by rw [← hV]; exact HZ0.out
                rw [hV]
                clear hV
                clear e0 e1 f0 f1 c0
                have e0 := HP1.out.c0
                have e1 := HP1.out.c1
                have f0 := HP1.out.f0 0
                have f1 := HP1.out.f0 1
                have c0 := HCL.out p h V1 hh0 (HLN.out V1 HBV1.out)
                go_upto_region 16 with fail
                obtain ⟨V2, hV⟩ : ∃ V2, (V1.setCell ⟨bx, 0, none⟩ (.int .i64 16)).setCell ⟨bx, 1, none⟩ (.int .i64 (r : Int)) = V2 := ⟨_, rfl⟩
                have HP2 : Hid (PB V2 bx (16, r)) := by rw [← hV]; exact HP1.out.set 16 r
                have HBV2 : Hid (Below bx w1 V2) := by rw [← hV]; exact (HBV1.out.setCell (p := ⟨bx, 0, none⟩) (Nat.le_refl _) _).setCell (p := ⟨bx, 1, none⟩) (Nat.le_refl _) _
                have HZV2 : Hid (V2.heap.size = bx + 1) := by rw [← hV]; show _ = _; simp [World.setCell, HZV1.out]
                rw [hV]
                clear hV
                clear e0 e1 f0 f1 c0
                have e0 := HP2.out.c0
                have e1 := HP2.out.c1
                have f0 := HP2.out.f0 0
                have f1 := HP2.out.f0 1
                have c0 := HCL.out p h V2 hh0 (HLN.out V2 HBV2.out)
                go_upto_region 18 with fail
                obtain ⟨V3, hV⟩ : ∃ V3, V2.setCell ⟨bx, 1, none⟩ (.int .i64 6) = V3 := ⟨_, rfl⟩
                have HP3 : Hid (PB V3 bx (16, 6)) := by rw [← hV]; exact HP2.out.set1 6
                have HBV3 : Hid (Below bx w1 V3) := by rw [← hV]; exact HBV2.out.setCell (p := ⟨bx, 1, none⟩) (Nat.le_refl _) _
                have HZV3 : Hid (V3.heap.size = bx + 1) := by rw [← hV]; show _ = _; simp [World.setCell, HZV2.out]
                rw [hV]
                clear hV
                clear e0 e1 f0 f1 c0
                have e0 := HP3.out.c0
                have e1 := HP3.out.c1
                have f0 := HP3.out.f0 0
                have f1 := HP3.out.f0 1
                have c0 := HCL.out p h V3 hh0 (HLN.out V3 HBV3.out)
                have HRf : Hid (V3.ownsRow w.heap.size 242 2 (.slice Av pre.length cv) pre.length (pre.map ptC).flatten) := own_keep HROW1.out (Mod.of_below (by rw [HBX.out]; exact HBV3.out)) (fun _ _ h => h)
                have HVZ : Hid (w.heap.size ≤ V3.heap.size) := by have := HZV3.out; have := HB1.out.size; have := HBX.out; show _ ≤ _; omega
                go_wp2_with (at_builtin; refine wpList_app _ refPElem rfl _ _ rfl w.heap.size (.slice Av pre.length cv) pre.length _ rfl (HRf.out.alloc _) (V3.heap.size + 1) (some ⟨V3.heap.size, 0, none⟩) 1 1 (ptC (16, 6)) rfl rfl (ptC_cellsP V3 (16, 6)) (ptC_one _) (by unfold maxLen; omega) (by omega) (by have := HVZ.out; simp; omega) ?_; intro A8 c8 w8 hap; have hg8 : w8.heap[bx]? = _ := (hap.grow.block bx (by have := HZV3.out; simp; omega) (fun e => by have := own_lt HROW1.out bx e.symm; have := HBX.out; omega)).trans ((Below.heap_alloc V3 _ bx (by have := HZV3.out; omega)).trans HP3.out); have q1 : w8.cell? ⟨bx, 1, none⟩ = some (.int .i64 ((6 : Nat) : Int)) := cell_of_row w8 bx 1 _ _ _ hg8; have HAP := Lib.hid hap; clear hap hg8)
                go_roundg (gk - 6)
                case measure => omega
                case rel =>
                  refine ⟨p + 6, pre ++ [(16, 6)], by omega, by go_num, by rw [HT.out, HTS.out, HNU.out, HMA.out]; simp, by omega, by simp; omega, by simpa using HAP.out.own, ?_⟩
                  exact HAP.out.below ((HLN.out _ HBV3.out).alloc HVZ.out _) (by have := HVZ.out; simp; omega) (own_base HRf.out)
          · have HNU : Hid (numP ls p = h) := by show _ = _; rw [hnu]; rw [if_neg (by omega), if_neg (by omega), if_neg (by omega)]
            have HMA : Hid (manyP ls p = 1) := by show _ = _; rw [hmn, HNU.out]; rw [show mostP h = 1 by unfold mostP; rw [if_neg (by omega), if_neg (by omega), if_neg (by omega)]]; omega
            rw [HMA.out] at hmpos hmle
            have v1 : ((h : Int) == 0) = false := by simp; omega
            have v1a : ((h : Int) != 0) = true := by simp; omega
            have v1b : ¬ ((h : Int) = 0) := by omega
            have v1c : (h == 0) = false := by simp; omega
            have v1d : (h != 0) = true := by simp; omega
            have v1e : ¬ (h = 0) := by omega
            have ty : ((y : Int) == (h : Int)) = false := by simp; omega
            have ty' : ¬ ((y : Int) = (h : Int)) := by omega
            have tyn : (y == h) = false := by simp; omega
            clear hnu hmn
            have e0 := HP0.out.c0
            have e1 := HP0.out.c1
            have f0 := HP0.out.f0 0
            have f1 := HP0.out.f0 1
            have c0 := HCL.out p h V0 hh0 (HLN.out V0 HB0.out)
            go_upto_region 12 with fail
            go_cut [67] (fun s wx => s = .bool false ∧ V0 = wx)
            case first =>
              by_cases hx : 138 < r
              · have t5 : decide ((138 : Int) < (r : Int)) = true := decide_eq_true (by omega)
                have t5' : (138 : Int) < (r : Int) := by omega
                go_wp2
                go_meet
                case rel => exact ⟨rfl, rfl⟩
              · have t5 : decide ((138 : Int) < (r : Int)) = false := decide_eq_false (by omega)
                go_wp2
                go_meet
                case rel => exact ⟨rfl, rfl⟩
            case rest =>
              obtain ⟨rfl, rfl⟩ := hcut
              go_upto_region 14 with fail
              go_quiet (fail)
              obtain ⟨V1, hV⟩ : ∃ V1, V0.drewN nq = V1 := ⟨_, rfl⟩
              have HP1 : Hid (PB V1 bx (h, 1)) := by rw [← hV]; exact HP0.out
              have HBV1 : Hid (Below bx w1 V1) := by rw [← hV]; exact below_drewP HB0.out nq
              have HZV1 : Hid (V1.heap.size = bx + 1) := by rw [← hV]; exact HZ0.out
              rw [hV]
              clear hV
              clear e0 e1 f0 f1 c0
              have e0 := HP1.out.c0
              have e1 := HP1.out.c1
              have f0 := HP1.out.f0 0
              have f1 := HP1.out.f0 1
              have c0 := HCL.out p h V1 hh0 (HLN.out V1 HBV1.out)
              have HRf : Hid (V1.ownsRow w.heap.size 242 2 (.slice Av pre.length cv) pre.length (pre.map ptC).flatten) := own_keep HROW1.out (Mod.of_below (by rw [HBX.out]; exact HBV1.out)) (fun _ _ h => h)
              have HVZ : Hid (w.heap.size ≤ V1.heap.size) := by have := HZV1.out; have := HB1.out.size; have := HBX.out; show _ ≤ _; omega
              go_wp2_with (at_builtin; refine wpList_app _ refPElem rfl _ _ rfl w.heap.size (.slice Av pre.length cv) pre.length _ rfl (HRf.out.alloc _) (V1.heap.size + 1) (some ⟨V1.heap.size, 0, none⟩) 1 1 (ptC (h, 1)) rfl rfl (ptC_cellsP V1 (h, 1)) (ptC_one _) (by unfold maxLen; omega) (by omega) (by have := HVZ.out; simp; omega) ?_; intro A8 c8 w8 hap; have hg8 : w8.heap[bx]? = _ := (hap.grow.block bx (by have := HZV1.out; simp; omega) (fun e => by have := own_lt HROW1.out bx e.symm; have := HBX.out; omega)).trans ((Below.heap_alloc V1 _ bx (by have := HZV1.out; omega)).trans HP1.out); have q1 : w8.cell? ⟨bx, 1, none⟩ = some (.int .i64 ((1 : Nat) : Int)) := cell_of_row w8 bx 1 _ _ _ hg8; have HAP := Lib.hid hap; clear hap hg8)
              go_roundg (gk - 1)
              case measure => omega
              case rel =>
                refine ⟨p + 1, pre ++ [(h, 1)], by omega, by go_num, by rw [HT.out, HTS.out, HNU.out, HMA.out]; simp, by omega, by simp; omega, by simpa using HAP.out.own, ?_⟩
                exact HAP.out.below ((HLN.out _ HBV1.out).alloc HVZ.out _) (by have := HVZ.out; simp; omega) (own_base HRf.out)
    · have t0 : decide ((p : Int) < (l : Int)) = false := decide_eq_false (by omega)
      have HE := Lib.hid (partsP_end (ls := ls) (p := p) (by rw [HL.out]; omega))
      have HPE : Hid (partsP ls 0 = pre) := by show _ = _; rw [HT.out, HE.out, List.append_nil]
      go_wp2
      go_ret
      exact ⟨Av, cv, by rw [HPE.out]; rfl, by rw [HPE.out]; exact HROW.out, HBL.out⟩
end Go.Proofs.YtaknladkodibaaaGreatDoor
