/- Layer 20: foot.Read over any bytes; foot.Write. -/
import Derived.Test.YthnoobhjkhafcaaDoorFtRd
namespace Go.Proofs.YthnoobhjkhafcaaDoor
open Go.RowKit CrcP FieldP
attribute [local go_sem ↓] Go.wp_at_zero Go.wp_at_succ

/-- What foot.Read tells of bytes. -/
noncomputable def rdR (bs : List UInt8) : Nat := if ftR bs ≠ 0 then ftR bs else if ftN bs 1 ≠ bs.length - 20 then 5 else if ftN bs 2 ≠ sumN (bs.take (bs.length - 20)) then 4 else tkR (bs.take (bs.length - 20)) (ftN bs 0)
theorem ftR_good {bs : List UInt8} (h : ftR bs = 0) : 20 ≤ bs.length ∧ isB footBytes bs (bs.length - 20 : Nat) = true ∧ threeR bs (bs.length - 20) = 0 ∧ ftB (ftN bs 0 : Nat) (ftN bs 1 : Nat) = true := by
  unfold ftR at h
  split at h
  · cases h
  rename_i h1
  split at h
  · cases h
  rename_i h2
  split at h
  · rename_i h3; exact absurd h h3
  rename_i h3
  split at h
  · cases h
  rename_i h4
  exact ⟨by omega, by cases e : isB footBytes bs (bs.length - 20 : Nat) with | true => rfl | false => exact absurd e h2, by simpa using h3, by cases e : ftB (ftN bs 0 : Nat) (ftN bs 1 : Nat) with | true => rfl | false => exact absurd e h4⟩

theorem own_le {w : World} {base base' : Nat} {e : TypeId} {size n : Nat} {v : Value} {xs : List Value} (h : w.ownsRow base e size v n xs) (hb : base' ≤ base) : w.ownsRow base' e size v n xs := by
  refine ⟨h.1, ?_⟩
  rcases h.2 with h2 | ⟨g, cap, cur, h1, h2, h3⟩
  · exact .inl h2
  · exact .inr ⟨g, cap, cur, h1, Nat.le_trans hb h2, h3⟩
set_option maxRecDepth 100000 in
set_option maxHeartbeats 4000000 in
theorem fread_any (tg : Nat) (A : Option Addr) (l c : Nat) (bs : List UInt8) (B : Nat) (w : World) (hT : Table w tg) (hW : WidE w) (hl : bs.length = l) (hm : l ≤ 1000000000) (hlc : l ≤ c) (hb : Bytes w B A bs) (hB : B ≤ w.heap.size) :
    Calls Tryd.prog 23 #[.pointer (some ⟨tg, 0, none⟩), .slice A l c] w fun e w' => Below w.heap.size w w' ∧
      ((rdR bs = 0 ∧ ∃ A' c', e = .returned (.tuple #[.slice A' (ftN bs 0) c', .int .i64 0]) ∧ w'.ownsRow w.heap.size 34 7 (.slice A' (ftN bs 0) c') (ftN bs 0) ((rdL (bs.take (bs.length - 20)) ⟨0, false⟩ (ftN bs 0)).map LM.cells).flatten) ∨ (rdR bs ≠ 0 ∧ e = .returned (.tuple #[.slice none 0 0, .int .i64 (rdR bs : Nat)]))) := by
  have HTK := Lib.hid (ftTake_any tg A l c bs B w hT hl (by omega) hlc hb hB)
  have HT : Hid (Table w tg) := hT
  have HWI := Lib.hid hW
  have hw0 := hW.1
  have htl := hT.lt
  have HRD : Hid (rdR bs = if ftR bs ≠ 0 then ftR bs else if ftN bs 1 ≠ bs.length - 20 then 5 else if ftN bs 2 ≠ sumN (bs.take (bs.length - 20)) then 4 else tkR (bs.take (bs.length - 20)) (ftN bs 0)) := rfl
  by_cases hr : ftR bs = 0
  · obtain ⟨h20, _, _, hfb⟩ := ftR_good hr
    rw [if_pos hr] at HTK
    rw [if_neg (by simpa using hr)] at HRD
    obtain ⟨b0, b1, b2, b3⟩ := ftB_yes hfb
    have hz32 := ftN_lt bs 2
    obtain ⟨x, hx⟩ : ∃ x, ftN bs 0 = x := ⟨_, rfl⟩
    obtain ⟨y, hy⟩ : ∃ x, ftN bs 1 = x := ⟨_, rfl⟩
    obtain ⟨z, hz⟩ : ∃ x, ftN bs 2 = x := ⟨_, rfl⟩
    obtain ⟨p, hp⟩ : ∃ p, bs.length - 20 = p := ⟨_, rfl⟩
    rw [hx] at b0 b1 HTK HRD
    rw [hy] at b2 b3 HTK HRD
    rw [hz] at hz32 HTK HRD
    rw [hp] at HRD
    rw [hx, hp]
    have hlp : (l : Int) - 20 = (p : Int) := by omega
    have hpl : p ≤ l := by omega
    have hpc : p ≤ c := by omega
    obtain ⟨b, o, rfl, hbB, hcell⟩ := hb (by rw [byteCells_length]; omega)
    have hbt : Bytes w B (some ⟨b, o, none⟩) (bs.take p) := fun _ => ⟨b, o, rfl, hbB, fun j u hu => hcell j u (by
      unfold byteCells at hu ⊢
      rw [List.getElem?_map, List.getElem?_take] at hu
      split at hu
      · rw [List.getElem?_map]; exact hu
      · simp at hu)⟩
    have HBT := Lib.hid hbt
    have HLT : Hid ((bs.take p).length = p) := by show _ = _; rw [List.length_take]; omega
    have HSU : Hid (∀ W, Table W tg → Bytes W B (some ⟨b, o, none⟩) (bs.take p) → Calls Tryd.prog 36 #[.pointer (some ⟨tg, 0, none⟩), .slice (some ⟨b, o, none⟩) p c] W fun e w' => e = .returned (.int .u32 (sumN (bs.take p) : Nat)) ∧ W = w') := fun W h1 h2 => sum_any tg _ p c (bs.take p) B W HLT.out (by omega) h1 h2
    have HTA := Lib.hid (fun W hW1 h2 h3 => enTake_in (some ⟨b, o, none⟩) p c (bs.take p) B x W hW1 (by omega) HLT.out (by omega) hpc h2 h3)
    have hslt := sumN_lt (bs.take p)
    obtain ⟨su, hsu⟩ : ∃ s, sumN (bs.take p) = s := ⟨_, rfl⟩
    rw [hsu] at HSU hslt HRD
    clear hT hW hb hl hr hfb hx hy hz hp hcell hbt hsu h20
    by_cases hyp : y = p
    · subst hyp
      rw [if_neg (by simp)] at HRD
      go_enter Tryd.func23, Tryd.ntmps23
      go_wp2_with (go_at_call 37; refine HTK.out.mono ?_; rintro e w1 ⟨rfl, hbw⟩; have HB1 := Lib.hid hbw; clear hbw)
      have HT2 := Lib.hid ((HT.out.below HB1.out htl).alloc (.cells #[.int .i64 (x : Int), .int .i64 (y : Int), .int .u32 (z : Int)] 61))
      have HX2 : Hid (Box (w1.alloc (.cells #[.int .i64 (x : Int), .int .i64 (y : Int), .int .u32 (z : Int)] 61)) w1.heap.size #[.int .i64 (x : Int), .int .i64 (y : Int), .int .u32 (z : Int)] 61) := heap_alloc_new w1 _
      have HB2 := Lib.hid (HB1.out.alloc HB1.out.size (.cells #[.int .i64 (x : Int), .int .i64 (y : Int), .int .u32 (z : Int)] 61))
      generalize w1.alloc (.cells #[.int .i64 (x : Int), .int .i64 (y : Int), .int .u32 (z : Int)] 61) = w2 at *
      have hx2 : ∀ n, (w2.drewN n).cell? ⟨w1.heap.size, 2, none⟩ = some (.int .u32 (z : Int)) := fun n => HX2.out.cell 2
      have hx2' : w2.cell? ⟨w1.heap.size, 2, none⟩ = some (.int .u32 (z : Int)) := HX2.out.cell 2
      have hx1' : w2.cell? ⟨w1.heap.size, 1, none⟩ = some (.int .i64 (y : Int)) := HX2.out.cell 1
      have hx0 : ∀ n, (w2.drewN n).cell? ⟨w1.heap.size, 0, none⟩ = some (.int .i64 (x : Int)) := fun n => HX2.out.cell 0
      by_cases hzs : z = su
      · subst hzs
        rw [if_neg (by simp)] at HRD
        go_wp2_with fail
        go_quiet ((go_at_call 36; refine quiet_left (HSU.out _ ?h1 ?h2); (case h1 => exact HT2.out); (case h2 => exact HBT.out.below (below_dr HB2.out _) hB)))
        have HB3 : Hid (Below w.heap.size w (w2.drewN nq)) := below_dr HB2.out nq
        have hx0' := hx0 nq
        clear hx2 hx2' hx1' hx0
        generalize w2.drewN nq = w3 at *
        go_wp2_with fail
        refine (HTA.out w3 (HWI.out.below HB3.out hw0 (by have := HB3.out.size; omega)) (HBT.out.below HB3.out hB) (Nat.le_trans hB HB3.out.size)).mono ?_
        rintro e w4 ⟨hb4, h4⟩
        have HB4 := Lib.hid (HB3.out.trans (hb4.mono HB3.out.size))
        have hz3 := HB3.out.size
        clear hb4
        rcases h4 with ⟨hr0, A4, c4, rfl, ho⟩ | ⟨hrn, rfl⟩
        · have HO := Lib.hid (own_le ho hz3)
          clear ho
          go_wp2
          go_ret2
          exact ⟨HB4.out, .inl ⟨by rw [HRD.out]; exact hr0, A4, c4, rfl, HO.out⟩⟩
        · go_wp2
          go_ret2
          exact ⟨HB4.out, .inr ⟨by rw [HRD.out]; exact hrn, by rw [HRD.out]; rfl⟩⟩
      · rw [if_pos hzs] at HRD
        go_wp2_with fail
        go_quiet ((go_at_call 36; refine quiet_left (HSU.out _ ?h1 ?h2); (case h1 => exact HT2.out); (case h2 => exact HBT.out.below (below_dr HB2.out _) hB)))
        have HB3 : Hid (Below w.heap.size w (w2.drewN nq)) := below_dr HB2.out nq
        clear hx2 hx2' hx1' hx0
        generalize w2.drewN nq = w3 at *
        go_wp2
        go_ret2
        exact ⟨HB3.out, .inr ⟨by rw [HRD.out]; decide, by rw [HRD.out]; rfl⟩⟩
    · rw [if_pos hyp] at HRD
      have hd : ((y : Int) != (p : Int)) = true := by simp; omega
      go_enter Tryd.func23, Tryd.ntmps23
      go_wp2_with (go_at_call 37; refine HTK.out.mono ?_; rintro e w1 ⟨rfl, hbw⟩; have HB1 := Lib.hid hbw; clear hbw)
      have HB2 := Lib.hid (HB1.out.alloc HB1.out.size (.cells #[.int .i64 (x : Int), .int .i64 (y : Int), .int .u32 (z : Int)] 61))
      go_wp2
      go_ret2
      exact ⟨HB2.out, .inr ⟨by rw [HRD.out]; decide, by rw [HRD.out]; rfl⟩⟩
  · rw [if_neg hr] at HTK
    rw [if_pos hr] at HRD
    obtain ⟨r, hrr⟩ : ∃ r, ftR bs = r := ⟨_, rfl⟩
    rw [hrr] at HTK HRD hr
    have hne : ((r : Int) != 0) = true := by simp; omega
    clear hT hW hb hl hrr
    have hr' := Lib.hid hr
    clear hr
    go_enter Tryd.func23, Tryd.ntmps23
    go_wp2_with (go_at_call 37; refine HTK.out.mono ?_; rintro e w1 ⟨rfl, hbw⟩; have HB1 := Lib.hid hbw; clear hbw)
    go_wp2
    go_ret2
    exact ⟨HB1.out.alloc HB1.out.size _, .inr ⟨by rw [HRD.out]; exact hr'.out, by rw [HRD.out]; rfl⟩⟩

theorem ftB_of {c l : Nat} (h1 : c ≤ 200) (h2 : l ≤ 16400) : ftB (c : Int) (l : Int) = true := by
  simp only [ftB, Bool.and_eq_true, decide_eq_true_eq]
  omega
/-- The bytes of a whole directory. -/
def footAll (ms : List LM) : List UInt8 := dirB ms ++ footB ms.length (rowsM ms) (sumN (dirB ms) : Nat)
set_option maxRecDepth 100000 in
set_option maxHeartbeats 2000000 in
theorem fwrite_yes (tg : Nat) (A : Option Addr) (l c : Nat) (ms : List LM) (B : Nat) (w : World) (hT : Table w tg) (hW : WidE w) (hl : ms.length = l) (hok : ∀ m ∈ ms, m.Ok) (hb : Cells w B A (ms.map LM.cells).flatten) (hB : B ≤ w.heap.size) (ha : allB ms = true) :
    Calls Tryd.prog 22 #[.pointer (some ⟨tg, 0, none⟩), .slice A l c] w fun e w' => ∃ A' c', e = .returned (.tuple #[.slice A' (rowsM ms + 20) c', .int .i64 0]) ∧ OwnY w' w.heap.size (.slice A' (rowsM ms + 20) c') (rowsM ms + 20) (footAll ms) ∧ Below w.heap.size w w' := by
  have HPT := Lib.hid (enPut_yes A l c ms B w hW hl hok hb hB ha)
  have HT := Lib.hid hT
  have htl := hT.lt
  obtain ⟨hs1, hs2⟩ := dir_small ha
  have hrow := rowsM_le hs2
  have hrows : rowsM ms ≤ 16400 := by omega
  have hl200 : l ≤ 200 := by omega
  have hdl := dirB_length ms
  have HSU := Lib.hid (fun A c B W (h1 : Table W tg) (h2 : Bytes W B A (dirB ms)) => sum_any tg A (rowsM ms) c (dirB ms) B W hdl (by omega) h1 h2)
  have hslt := sumN_lt (dirB ms)
  have HFP := Lib.hid (fun W h => ftPut_yes tg l (rowsM ms : Nat) (sumN (dirB ms) : Nat) W (ftB_of (by omega) (by omega)) (by omega) (by omega) h)
  have HD : Hid (footAll ms = dirB ms ++ footB l (rowsM ms : Nat) (sumN (dirB ms) : Nat)) := by show _ = _; unfold footAll; rw [hl]
  clear hT hW hl hok hb ha hs1 hs2 hrow hdl
  generalize footB (l : Int) (rowsM ms : Nat) (sumN (dirB ms) : Nat) = FB at *
  obtain ⟨R, hR⟩ : ∃ R, rowsM ms = R := ⟨_, rfl⟩
  obtain ⟨su, hsu⟩ : ∃ s, sumN (dirB ms) = s := ⟨_, rfl⟩
  rw [hR] at HPT HSU HFP hrows
  rw [hsu] at HSU HFP hslt
  rw [hR]
  clear hR hsu
  go_enter Tryd.func22, Tryd.ntmps22
  go_wp2_with fail
  refine HPT.out.mono ?_
  rintro e w1 ⟨A1, c1, rfl, ho1, hb1⟩
  have HO1 := Lib.hid ho1
  have HB1 := Lib.hid hb1
  have HT1 := Lib.hid (HT.out.below hb1 htl)
  have ht1 := HT1.out.lt
  clear ho1 hb1
  go_wp2_with (first
    | (go_at_call 36; refine (HSU.out _ _ _ _ HT1.out HO1.out.cells).mono ?_; rintro e w' ⟨rfl, rfl⟩)
    | (go_at_call 35; refine (HFP.out _ HT1.out).mono ?_; rintro e w2 ⟨A2, c2, rfl, ho2, hb2⟩; have HO2 := Lib.hid ho2; have HB2 := Lib.hid (HB1.out.trans (hb2.mono HB1.out.size)); have HO1' := Lib.hid (HO1.out.keep (Mod.of_below hb2) (fun _ _ h => h)); have hz2 := HB2.out.size; clear ho2 hb2)
    | (at_builtin; go_must (skip; refine wpList_appT _ byteElem rfl (.tmp 31) (.tmp 32) rfl w.heap.size (.slice A1 R c1) R _ rfl HO1'.out _ A2 20 c2 (byteCells FB) rfl HO2.out.1 HO2.out.cells (byteCells_one _) (by unfold maxLen; omega) (by omega) hz2 ?_; intro A3 c3 w3 hA; have HA := Lib.hid hA; clear hA)))
  go_ret2
  refine ⟨A3, c3, rfl, ?_, HA.out.below HB2.out HB2.out.size (fun q hq => (HO1'.out.lt q hq).1)⟩
  rw [HD.out]
  have := HA.out.own
  rwa [← byteCells_append] at this
theorem fwrite_no (tg : Nat) (A : Option Addr) (l c : Nat) (ms : List LM) (B : Nat) (w : World) (hl : ms.length = l) (hok : ∀ m ∈ ms, m.Ok) (hb : Cells w B A (ms.map LM.cells).flatten) (hB : B ≤ w.heap.size) (ha : allB ms = false) :
    Calls Tryd.prog 22 #[.pointer (some ⟨tg, 0, none⟩), .slice A l c] w fun e w' => e = .returned (.tuple #[.slice none 0 0, .int .i64 1]) ∧ Below w.heap.size w w' := by
  have HPT := Lib.hid (enPut_no A l c ms B w hl hok hb hB ha)
  clear hl hok hb ha
  go_enter Tryd.func22, Tryd.ntmps22
  go_wp2_with (go_at_call 10; refine HPT.out.mono ?_; rintro e w1 ⟨rfl, hb⟩; have HB1 := Lib.hid hb; clear hb)
  go_ret2
  exact ⟨rfl, HB1.out⟩
end Go.Proofs.YthnoobhjkhafcaaDoor
