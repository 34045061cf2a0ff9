/- Layer 7: the reference's Lengths. -/
import Derived.Test.YtgbbdgoleiolhaaGreatMgBlockBack39
namespace Go.Proofs.YtgbbdgoleiolhaaGreat
open Go.RowKit

theorem NB.apart2 {w : World} {g b o : Nat} {v : Value} {ns : List Nat} (h : NB w g ns) (ha : w.cell? ⟨b, o, none⟩ = some v) (hv : ∀ n, v ≠ .int .i64 n) : b ≠ g := by
  rintro rfl
  rw [cell_of_row _ _ _ _ _ _ h] at ha
  have h2 : (nCs ns)[o]? = some v := by simpa using ha
  rw [nCs, List.getElem?_map] at h2
  cases hx : ns[o]? with
  | none => rw [hx] at h2; cases h2
  | some n => rw [hx] at h2; exact hv _ (by injection h2 with h2; exact h2.symm)
theorem mod_cell {w w' : World} {g b o : Nat} {v : Value} (h : w.cell? ⟨b, o, none⟩ = some v) (hm : Mod (oneB g) w w') (hb : b ≠ g) : w'.cell? ⟨b, o, none⟩ = some v :=
  (World.cell?_of_block (a := ⟨b, o, none⟩) (hm.block b (World.block_lt_of_cell? w _ h) (fun e => hb e))).trans h
set_option maxRecDepth 100000 in
set_option maxHeartbeats 1000000 in
theorem refLen_none (A : Option Addr) (l c : Nat) (ns : List Nat) (B : Nat) (w : World) (hz : ns.length = l) (hl : l ≤ 320) (hb : Cells w B A (nCs ns)) (hB : B ≤ w.heap.size) (hn : itemsW ns = []) :
    Calls Tryz.prog 29 #[.slice A l c] w fun e w' => e = .returned (.slice (some ⟨w.heap.size, 0, none⟩) l l) ∧ NB w' w.heap.size (lensW ns) ∧ Below w.heap.size w w' := by
  have HL := Lib.hid hz
  have HN := Lib.hid hn
  obtain ⟨w1, hw1⟩ : ∃ w1, w.alloc (.cells (madeCells #[.int .i64 0] l) 3) = w1 := ⟨_, rfl⟩
  have hmk : (Instr.makeSlice 53 (.int .i64 (l : Int)) (.int .i64 (l : Int))).run Tryz.prog w = .ok (.slice (some ⟨w.heap.size, 0, none⟩) l l) w1 := by rw [← hw1]; exact wei_make l (by omega) w
  have HN1 : Hid (NB w1 w.heap.size (List.replicate l 0)) := by show NB _ _ _; rw [← hw1]; exact wei_made w l
  have HB1 : Hid (Below w.heap.size w w1) := by show Below _ _ _; rw [← hw1]; exact (Below.refl _ _).alloc (Nat.le_refl _) _
  have HI := Lib.hid (refItems_any A l c ns B w1 hz (by omega) (Nat.le_trans hB HB1.out.size) (hb.below HB1.out hB))
  have HZ1 : Hid (w.heap.size < w1.heap.size) := HN1.out.lt
  clear hb hz hn hw1
  go_enter Tryz.func29, Tryz.ntmps29
  go_wp2_with (go_at_call 53; refine HI.out.mono ?_; rintro e w2 ⟨A7, n7, c7, rfl, hn7, ho7, hb7⟩; (obtain rfl : n7 = 0 := by rw [hn7, HN.out]; rfl); have HB7 := Lib.hid hb7; clear hn7 ho7 hb7)
  go_ret
  exact ⟨rfl, by rw [lensW_none HN.out, HL.out]; exact HN1.out.below HB7.out HZ1.out, HB1.out.trans (HB7.out.mono HB1.out.size)⟩
set_option maxRecDepth 100000 in
set_option maxHeartbeats 1000000 in
theorem refLen_one (A : Option Addr) (l c : Nat) (ns : List Nat) (B : Nat) (w : World) (x0 s0 : Nat) (hz : ns.length = l) (hl : l ≤ 320) (hb : Cells w B A (nCs ns)) (hB : B ≤ w.heap.size) (hn : itemsW ns = [(x0, s0)]) :
    Calls Tryz.prog 29 #[.slice A l c] w fun e w' => e = .returned (.slice (some ⟨w.heap.size, 0, none⟩) l l) ∧ NB w' w.heap.size (lensW ns) ∧ Below w.heap.size w w' := by
  have HL := Lib.hid hz
  have HN := Lib.hid hn
  have hs0 : s0 < l := by
    have := (itemsW_mem (ns := ns) (x := (x0, s0)) (by rw [hn]; simp)).2.2
    rw [hz] at this
    exact this
  obtain ⟨w1, hw1⟩ : ∃ w1, w.alloc (.cells (madeCells #[.int .i64 0] l) 3) = w1 := ⟨_, rfl⟩
  have hmk : (Instr.makeSlice 53 (.int .i64 (l : Int)) (.int .i64 (l : Int))).run Tryz.prog w = .ok (.slice (some ⟨w.heap.size, 0, none⟩) l l) w1 := by rw [← hw1]; exact wei_make l (by omega) w
  have HN1 : Hid (NB w1 w.heap.size (List.replicate l 0)) := by show NB _ _ _; rw [← hw1]; exact wei_made w l
  have HB1 : Hid (Below w.heap.size w w1) := by show Below _ _ _; rw [← hw1]; exact (Below.refl _ _).alloc (Nat.le_refl _) _
  have HI := Lib.hid (refItems_any A l c ns B w1 hz (by omega) (Nat.le_trans hB HB1.out.size) (hb.below HB1.out hB))
  have HZ1 : Hid (w.heap.size < w1.heap.size) := HN1.out.lt
  obtain ⟨g, hg⟩ : ∃ g, w.heap.size = g := ⟨_, rfl⟩
  have HG := Lib.hid hg
  rw [hg] at hmk HN1 HZ1 ⊢
  clear hb hz hn hw1 hg
  go_enter Tryz.func29, Tryz.ntmps29
  go_wp2_with (go_at_call 53; refine HI.out.mono ?_; rintro e w2 ⟨A7, n7, c7, rfl, hn7, ho7, hb7⟩; (obtain rfl : n7 = 1 := by rw [hn7, HN.out]; rfl); have HB7 := Lib.hid hb7; (have hcc := (cells_of_ownK ho7).2 (by rw [HN.out]; simp [rItE])); obtain ⟨b7, o7, rfl, _, hcell⟩ := hcc; (have f1 : w2.cell? ⟨b7, o7, none⟩ = some (.int .i64 (s0 : Int)) := hcell 0 _ (by rw [HN.out]; rfl)); (have HN2 := Lib.hid (HN1.out.below HB7.out HZ1.out)); (have d0 : w2.cell? ⟨g, s0, none⟩ = some (.int .i64 0) := by (have := HN2.out.cell (k := s0) (n := 0) (by simp [hs0])); simpa using this); (have d1 : w2.frozen? ⟨g, s0, none⟩ = false := HN2.out.free); clear hn7 ho7 hb7 hcell)
  go_ret
  have h2 := HN2.out.set s0 1
  have hb : Below g w w2 := by
    have h1 := HB1.out
    rw [HG.out] at h1
    exact h1.trans (HB7.out.mono (Nat.le_of_lt HZ1.out))
  exact ⟨rfl, by rw [lensW_one HN.out, HL.out]; exact h2, hb.setCell (p := ⟨g, s0, none⟩) (Nat.le_refl _) _⟩
set_option maxRecDepth 100000 in
set_option maxHeartbeats 4000000 in
theorem refLen_many (A : Option Addr) (l c : Nat) (ns : List Nat) (B : Nat) (w : World) (hz : ns.length = l) (hl : l ≤ 320) (hb : Cells w B A (nCs ns)) (hB : B ≤ w.heap.size) (hok : ∀ n ∈ ns, n ≤ 1073741824) (h2 : 2 ≤ (itemsW ns).length) :
    Calls Tryz.prog 29 #[.slice A l c] w fun e w' => e = .returned (.slice (some ⟨w.heap.size, 0, none⟩) l l) ∧ NB w' w.heap.size (lensW ns) ∧ Below w.heap.size w w' := by
  have HL := Lib.hid hz
  have HGD : Hid (Good (itemsW ns)) := itemsW_good h2 (by omega)
  have HRR := Lib.hid (lensW_many (ns := ns) h2)
  have hnl : (itemsW ns).length ≤ l := by rw [← hz]; exact itemsW_len ns
  have HWT : Hid (∀ x ∈ itemsW ns, x.1 ≤ 1073741824 ∧ x.2 < l) := fun x hx => by
    have h1 := itemsW_mem hx
    exact ⟨hok x.1 (List.mem_of_getElem? h1.1), by rw [← hz]; exact h1.2.2⟩
  obtain ⟨w1, hw1⟩ : ∃ w1, w.alloc (.cells (madeCells #[.int .i64 0] l) 3) = w1 := ⟨_, rfl⟩
  have hmk : (Instr.makeSlice 53 (.int .i64 (l : Int)) (.int .i64 (l : Int))).run Tryz.prog w = .ok (.slice (some ⟨w.heap.size, 0, none⟩) l l) w1 := by rw [← hw1]; exact wei_make l (by omega) w
  have HN1 : Hid (NB w1 w.heap.size (List.replicate l 0)) := by show NB _ _ _; rw [← hw1]; exact wei_made w l
  have HB1 : Hid (Below w.heap.size w w1) := by show Below _ _ _; rw [← hw1]; exact (Below.refl _ _).alloc (Nat.le_refl _) _
  have HI := Lib.hid (refItems_any A l c ns B w1 hz (by omega) (Nat.le_trans hB HB1.out.size) (hb.below HB1.out hB))
  have HZ1 : Hid (w.heap.size < w1.heap.size) := HN1.out.lt
  obtain ⟨g, hg⟩ : ∃ g, w.heap.size = g := ⟨_, rfl⟩
  have HG := Lib.hid hg
  obtain ⟨its, hits⟩ : ∃ its, itemsW ns = its := ⟨_, rfl⟩
  rw [hits] at HGD HRR hnl HWT HI h2
  obtain ⟨n, hn⟩ : ∃ n, its.length = n := ⟨_, rfl⟩
  rw [hn] at hnl h2 HI
  have HN := Lib.hid hn
  rw [hg] at hmk HN1 HZ1 ⊢
  have t1 : ((n : Int) == 1) = false := by simp; omega
  have t2 : decide ((n : Int) < 2) = false := by simp; omega
  have HITS := Lib.hid hits
  clear hb hz hw1 hg hits hn hok
  go_enter Tryz.func29, Tryz.ntmps29
  go_wp2_with (go_at_call 53; refine HI.out.mono ?_; rintro e w2 ⟨A7, n7, c7, rfl, hn7, ho7, hb7⟩; subst hn7; have HO7 := Lib.hid ho7; have HB7 := Lib.hid hb7; have HN2 := Lib.hid (HN1.out.below hb7 HZ1.out); clear ho7 hb7)
  obtain ⟨N, hN⟩ : ∃ N, w2.heap.size = N := ⟨_, rfl⟩
  obtain ⟨g7, hA7, hg7⟩ : ∃ g7, A7 = some ⟨g7, 0, none⟩ ∧ g ≠ g7 := by
    rcases HO7.out.2 with ⟨_, h0⟩ | ⟨g7, cap, cur, hv, hb, _⟩
    · omega
    · simp only [Value.slice.injEq] at hv
      exact ⟨g7, hv.1, by have := HZ1.out; omega⟩
  subst hA7
  have HC7 : Hid (Cells w2 N (some ⟨g7, 0, none⟩) (its.flatMap rItE)) := by show Cells _ _ _ _; rw [← hN]; exact (cells_of_ownK HO7.out).2
  have HG7 := Lib.hid hg7
  have HNN := Lib.hid hN
  have hgN : g < N := by rw [← hN]; exact HN2.out.lt
  clear hN HO7 hg7
  go_loopg [5, 6] 15 (fun gk v i wr => ∃ (j : Nat) (A' : Option Addr) (n' c' : Nat) (cs : List Value), j + gk = 15 ∧ i = .int .i64 j ∧ v = .slice A' n' c' ∧ n' = (rrP (firstP its) j).length ∧ Cells wr wr.heap.size A' cs ∧ RowH N wr (rrP (firstP its) j) cs ∧ Below N w2 wr)
  case atStart => exact ⟨0, none, 0, 0, [], rfl, rfl, rfl, rfl, Cells.nil _ _ _, RowH.nil _ _, Below.refl _ _⟩
  case round =>
    obtain ⟨j, A', n', c', cs, hj, rfl, rfl, hn', hcs, hrow, hbl⟩ := hrel
    have HBL := Lib.hid hbl
    have HNP := Lib.hid hn'
    have hbd := rrP_bd (its := its) (fun x hx => (HWT.out x hx).1) (j := j) (by omega)
    rw [HN.out] at hbd
    have hn2 : n' ≤ 2 * n7 := by rw [hn']; exact hbd.1
    have HSZ : Hid (N ≤ wr.heap.size) := by have h1 := hbl.size; rw [HNN.out] at h1; exact h1
    by_cases hj15 : j < 15
    · have HRO := Lib.hid (refRow7_any (some ⟨g7, 0, none⟩) A' n7 c7 n' c' its (rrP (firstP its) j) cs wr.heap.size wr HN.out hn'.symm (by omega) (by omega) (Nat.le_refl _) ((HC7.out.below hbl (Nat.le_refl _)).more HSZ.out) hcs N HSZ.out hrow (fun x hx => ⟨(hbd.2 x hx).1, (hbd.2 x hx).2.1⟩))
      have hjd : decide ((j : Int) < 15) = true := by simp; omega
      clear hbl hn' hcs hrow hbd
      go_wp2_with (go_at_call 54; refine HRO.out.mono ?_; rintro e w3 ⟨A3, n3, c3, cs3, rfl, hn3, ho3, hr3, hb3⟩; have HN3 := Lib.hid hn3; have HC3 := Lib.hid (cells_of_ownK ho3).2; have HR3 := Lib.hid hr3; have HB3 := Lib.hid hb3; clear hn3 ho3 hr3 hb3)
      go_roundg (gk - 1)
      case measure => omega
      case rel => exact ⟨j + 1, A3, n3, c3, cs3, by omega, by go_num, rfl, HN3.out, HC3.out, HR3.out, HBL.out.trans (HB3.out.mono HSZ.out)⟩
    · obtain rfl : j = 15 := by omega
      obtain ⟨row, hrw⟩ : ∃ row, rrP (firstP its) 15 = row := ⟨_, rfl⟩
      have HRW : Hid (row = rowW (firstP its) 14) := by show _ = _; rw [← hrw, rrP_row]
      rw [hrw] at hn' hrow hbd HNP
      obtain ⟨tt, htt⟩ : ∃ tt, 2 * n7 - 2 = tt := ⟨_, rfl⟩
      have HTT := Lib.hid htt
      have hr14 : tt ≤ n' := by
        have h1 := row14 (first := firstP its) (by rw [firstP_len, HN.out]; omega)
        rw [firstP_len, HN.out, ← HRW.out, ← hn'] at h1
        omega
      have htt0 : tt ≤ 640 := by omega
      have e1 : IntKind.i64.wrap (2 * (n7 : Int) - 2) = (tt : Int) := by rw [show 2 * (n7 : Int) - 2 = (tt : Int) by omega]; exact IntWalk.i64_in _ (by omega)
      have e2 : 2 * (n7 : Int) - 2 = (tt : Int) := by omega
      have HNB : Hid (NB wr g (List.replicate l 0)) := HN2.out.below hbl hgN
      have HCS := Lib.hid hcs
      have HROW := Lib.hid hrow
      have HBD := Lib.hid hbd.2
      have HCI : Hid (Cells wr N (some ⟨g7, 0, none⟩) (its.flatMap rItE)) := HC7.out.below hbl (Nat.le_refl _)
      have hn16 : n' ≤ 640 := by omega
      clear hbl hn' hcs hrow hbd hrw htt hj hn2
      obtain ⟨wz, hwz⟩ : ∃ wz, wz = wr := ⟨_, rfl⟩
      subst hwz
      have HIT : Hid (∀ p y, its[p]? = some y → wz.cell? ⟨g7, p * 2, none⟩ = some (.int .i64 (y.2 : Int))) := fun p y hy => by
        obtain ⟨b, o, he, _, hc⟩ := HCI.out (by rw [rIt_len, HN.out]; omega)
        simp only [Option.some.injEq, Addr.mk.injEq, and_true] at he
        obtain ⟨rfl, rfl⟩ := he
        have := hc _ _ (rIt_at hy).1
        rwa [Nat.zero_add] at this
      have HCT : Hid (∀ j, j ≤ tt → ∀ s, ((((row.take j).flatMap (·.2)).map (symAt its))).count s ≤ 15) := fun j hj s => by
        have h1 := lnW_le (ns := ns) (by rw [HITS.out]; exact HGD.out) s
        rw [HITS.out] at h1
        have h2 := count_flat_le (l := rowW (firstW its) 14) s j tt hj
        rw [lnW, symsW, HN.out, HTT.out] at h1
        rw [HRW.out, symsP]
        omega
      clear HCI
      go_wp2
      go_loopg [7, 8, 9] tt (fun gj i k9 s9 wi => ∃ j : Nat, j + gj = tt ∧ i = .int .i64 j ∧ NB wi g (incW (List.replicate l 0) (((row.take j).flatMap (·.2)).map (symAt its))) ∧ Mod (oneB g) wz wi)
      case atStart => exact ⟨0, by omega, rfl, HNB.out, Mod.refl _ _⟩
      case round =>
        obtain ⟨j, hj, rfl, hnb, hmd⟩ := hrel
        have HNB2 := Lib.hid hnb
        have HMD := Lib.hid hmd
        clear hnb hmd
        by_cases hjt : j < tt
        · have u1 : decide ((j : Int) < (tt : Int)) = true := by simp; omega
          have u1' : decide (j < tt) = true := by simp; omega
          have u2 : decide ((j : Int) < (n' : Int)) = true := by simp; omega
          have u2' : decide (j < n') = true := by simp; omega
          obtain ⟨x, hx⟩ : ∃ x, row[j]? = some x := ⟨_, List.getElem?_eq_getElem (by rw [← HNP.out]; omega)⟩
          obtain ⟨Ah, ch, _, ha2, ha3⟩ := HROW.out.at_ hx
          obtain ⟨br, oR, rfl, _, hcr⟩ := HCS.out (by rw [HROW.out.len, ← HNP.out]; omega)
          have hr0 : wz.cell? ⟨br, oR + j * 2 + 1, none⟩ = some (.slice Ah x.2.length ch) := by rw [Nat.add_assoc]; exact hcr _ _ ha2
          have hbr := HNB.out.apart2 hr0 (fun _ e => by cases e)
          have hbx := HBD.out x (List.mem_of_getElem? hx)
          have HTK : Hid (((row.take (j + 1)).flatMap (·.2)).map (symAt its) = (((row.take j).flatMap (·.2)) ++ x.2).map (symAt its)) := by
            show _ = _
            rw [List.take_add_one, hx, List.flatMap_append]
            simp
          have hct := HCT.out (j + 1) (by omega)
          rw [HTK.out] at hct
          obtain ⟨xw, xl⟩ := x
          dsimp only at *
          obtain ⟨nx, hnx⟩ : ∃ nx, xl.length = nx := ⟨_, rfl⟩
          rw [hnx] at hr0 hbx
          have HNX := Lib.hid hnx
          have HR0 : Hid (∀ W, Mod (oneB g) wz W → W.cell? ⟨br, oR + j * 2 + 1, none⟩ = some (.slice Ah nx ch)) := fun W hW => mod_cell hr0 hW hbr
          have HHA := Lib.hid ha3
          have HPB := Lib.hid hbx.2.2
          have hnx6 : nx ≤ 1000000 := hbx.2.1
          have HCT2 := Lib.hid hct
          obtain ⟨pre, hpre⟩ : ∃ pre, (row.take j).flatMap (·.2) = pre := ⟨_, rfl⟩
          rw [hpre] at HNB2 HTK HCT2
          obtain ⟨GJ, hGJ⟩ : ∃ GJ, GJ = gk := ⟨_, rfl⟩
          subst hGJ
          clear hx ha2 ha3 hcr hr0 hbr hbx hct hnx hpre
          go_wp2
          go_loopg [8, 9] nx (fun gi k9 s9 wi => ∃ k : Nat, k + gi = nx ∧ k9 = .int .i64 k ∧ NB wi g (incW (List.replicate l 0) ((pre ++ xl.take k).map (symAt its))) ∧ Mod (oneB g) wz wi)
          case atStart => exact ⟨0, by omega, rfl, by rw [List.take_zero, List.append_nil]; exact HNB2.out, HMD.out⟩
          case round =>
            clear HNB2 HMD
            obtain ⟨k, hk, rfl, hnb, hmd⟩ := hrel
            have HNB2 := Lib.hid hnb
            have HMD := Lib.hid hmd
            have r0 := HR0.out wr hmd
            clear hnb hmd
            by_cases hkx : k < nx
            · obtain ⟨pl, hpl⟩ : ∃ pl, xl[k]? = some pl := ⟨_, List.getElem?_eq_getElem (by have := HNX.out; omega)⟩
              have hpn := HPB.out pl (List.mem_of_getElem? hpl)
              obtain ⟨y, hy⟩ : ∃ y, its[pl]? = some y := ⟨_, List.getElem?_eq_getElem (by have := HN.out; omega)⟩
              obtain ⟨bh, oh, cur, rfl, hbN, hcb, hcur⟩ := HHA.out (by rw [nCs_len]; have := HNX.out; omega)
              have h0 : wz.cell? ⟨bh, oh + k, none⟩ = some (.int .i64 (pl : Int)) := by rw [cell_of_row _ _ _ _ _ _ hcb]; exact hcur _ _ (nCs_at hpl)
              have r1 := mod_cell h0 HMD.out (by omega)
              have r2 := mod_cell (HIT.out pl y hy) HMD.out (fun e => HG7.out e.symm)
              have hsl := (HWT.out y (List.mem_of_getElem? hy)).2
              have hsy : symAt its pl = y.2 := by simp [symAt, hy]
              have HTS : Hid ((pre ++ xl.take (k + 1)).map (symAt its) = (pre ++ xl.take k).map (symAt its) ++ [y.2]) := by
                show _ = _
                rw [List.take_add_one, hpl, List.map_append, List.map_append, List.map_append, List.append_assoc]
                simp [hsy]
              obtain ⟨sy, hsyy⟩ : ∃ sy, y.2 = sy := ⟨_, rfl⟩
              rw [hsyy] at r2 hsl HTS
              have hlen : (incW (List.replicate l 0) ((pre ++ xl.take k).map (symAt its))).length = l := by rw [incW_len, List.length_replicate]
              obtain ⟨v, hv⟩ : ∃ v, (incW (List.replicate l 0) ((pre ++ xl.take k).map (symAt its)))[sy]? = some v := ⟨_, List.getElem?_eq_getElem (by rw [hlen]; exact hsl)⟩
              have hgv : (incW (List.replicate l 0) ((pre ++ xl.take k).map (symAt its))).getD sy 0 = v := by rw [List.getD, hv]; rfl
              have hv15 : v ≤ 15 := by
                rw [← hgv, incW_getD _ _ _ (by rw [List.length_replicate]; exact hsl), List.getD, List.getElem?_replicate, if_pos hsl]
                show 0 + _ ≤ _
                have h1 := HCT2.out sy
                have h2 : xl = xl.take k ++ xl.drop k := (List.take_append_drop k xl).symm
                rw [h2, ← List.append_assoc, List.map_append, List.count_append] at h1
                omega
              have r3 := HNB2.out.cell hv
              have r4 : wr.frozen? ⟨g, sy, none⟩ = false := HNB2.out.free
              have HST : Hid (NB (wr.setCell ⟨g, sy, none⟩ (.int .i64 ((v : Int) + 1))) g (incW (List.replicate l 0) ((pre ++ xl.take (k + 1)).map (symAt its)))) := by
                have h1 := HNB2.out.set sy (v + 1)
                rw [Int.natCast_add] at h1
                rw [HTS.out, incW_append, incW_cons, hgv]
                exact h1
              clear hpl hy hcb hcur h0 hsy hsyy hlen hv hgv
              go_wp2
              go_roundg (gk - 1)
              case measure => omega
              case rel => exact ⟨k + 1, by omega, by go_num, HST.out, HMD.out.set _ _ (.inl rfl)⟩
            · obtain rfl : k = nx := by omega
              have htk : xl.take k = xl := List.take_of_length_le (by have := HNX.out; omega)
              have HNB3 := HNB2.out
              rw [htk, ← HTK.out] at HNB3
              have HNB4 := Lib.hid HNB3
              clear htk HNB3
              go_wp2
              go_roundg (GJ - 1)
              case measure => omega
              case rel => exact ⟨j + 1, by omega, by go_num, HNB4.out, HMD.out⟩
        · obtain rfl : j = tt := by omega
          have u1 : decide ((j : Int) < (j : Int)) = false := by simp
          have u1' : decide (j < j) = false := by simp
          go_wp2
          go_ret
          refine ⟨rfl, ?_, ?_⟩
          · have h1 := HNB2.out
            have hsy : ((row.take j).flatMap (·.2)).map (symAt its) = symsW its := by rw [HRW.out, symsP, symsW, HN.out, HTT.out]
            rw [hsy, ← HL.out, ← HRR.out] at h1
            exact h1
          · have h1 := HB1.out
            rw [HG.out] at h1
            have h3 : Below g w w2 := h1.trans (HB7.out.mono (Nat.le_of_lt HZ1.out))
            have h4 : Below g w wz := h3.trans (HBL.out.mono (by omega))
            exact h4.trans (HMD.out.below (Below.refl g wz) (by have := HNB.out.lt; omega) (fun r hr => by have : r = g := hr; omega))
/-- The reference's lengths. -/
theorem refLen_ok (A : Option Addr) (l c : Nat) (ns : List Nat) (B : Nat) (w : World) (hz : ns.length = l) (hl : l ≤ 320) (hb : Cells w B A (nCs ns)) (hB : B ≤ w.heap.size) (hok : ∀ n ∈ ns, n ≤ 1073741824) :
    Calls Tryz.prog 29 #[.slice A l c] w fun e w' => e = .returned (.slice (some ⟨w.heap.size, 0, none⟩) l l) ∧ NB w' w.heap.size (lensW ns) ∧ Below w.heap.size w w' := by
  match h : itemsW ns with
  | [] => exact refLen_none A l c ns B w hz hl hb hB h
  | [(x, s)] => exact refLen_one A l c ns B w x s hz hl hb hB h
  | a :: b :: r => exact refLen_many A l c ns B w hz hl hb hB hok (by rw [h]; simp)
end Go.Proofs.YtgbbdgoleiolhaaGreat
