/- Layer 18: DescBack walked. -/
import Derived.Test.YtnccbnadfgilaaaDcBkP
namespace Go.Proofs.Ytnccbnadfgilaaa
open Go.RowKit CrcP FieldP
attribute [local go_sem ↓] Go.wp_at_zero Go.wp_at_succ

theorem capT {w : World} {base n c : Nat} {e : TypeId} {A : Option Addr} {xs : List Value} (h : OwnT w base e (.slice A n c) n xs) : n ≤ c := by
  rcases h.2 with ⟨h1, h2⟩ | ⟨g, cap, cur, fz, hv, _, _, _, hnc, _⟩
  · simp only [Value.slice.injEq] at h1
    omega
  · simp only [Value.slice.injEq] at hv
    obtain ⟨_, _, rfl⟩ := hv
    exact hnc
theorem capB {w : World} {base n c : Nat} {A : Option Addr} {xs : List Value} (h : w.ownsRow base 5 1 (.slice A n c) n xs) : n ≤ c := capT (OwnT.of h)
theorem RowsIn.below {w V : World} {A : Option Addr} {ls : List PcV} (h : RowsIn w A ls) (hV : Below w.heap.size w V) : RowsIn V A ls :=
  ⟨(Cells.below h.row hV (Nat.le_refl _)).more hV.size, fun x hx => ⟨(Cells.below (h.each x hx).1 hV (Nat.le_refl _)).more hV.size, (h.each x hx).2⟩⟩
set_option maxRecDepth 100000 in
set_option maxHeartbeats 1000000 in
theorem dcback_any (A A2 : Option Addr) (l c l2 c2 : Nat) (ls : List PcV) (bs2 : List UInt8) (w : World) (hl : ls.length = l) (hm : l ≤ 9223372036854775807) (hr : RowsIn w A ls) (hl2 : bs2.length = l2) (hm2 : l2 ≤ 9223372036854775807) (hb2 : Bytes w w.heap.size A2 bs2) :
    Calls Try.prog 5 #[.slice A l c, .slice A2 l2 c2] w fun e w' => e = .returned (.bool true) ∧ Below w.heap.size w w' := by
  by_cases h20 : 20 < l
  · have hd : decide ((20 : Int) < (l : Int)) = true := by simp; omega
    clear hl hr hl2 hb2
    go_enter Try.func5, Try.ntmps5
    go_wp2_with (go_at_call 7; refine (dcLives_any _).mono ?_; rintro e w4 ⟨rfl, hb4⟩; have HB4 := Lib.hid hb4; clear hb4)
    go_ret
    exact ⟨rfl, HB4.out⟩
  have hd : decide ((20 : Int) < (l : Int)) = false := by simp; omega
  by_cases h500 : 500 < l2
  · have hd2 : decide ((500 : Int) < (l2 : Int)) = true := by simp; omega
    clear hl hr hl2 hb2
    go_enter Try.func5, Try.ntmps5
    go_wp2_with (go_at_call 7; refine (dcLives_any _).mono ?_; rintro e w4 ⟨rfl, hb4⟩; have HB4 := Lib.hid hb4; clear hb4)
    go_ret
    exact ⟨rfl, HB4.out⟩
  have hd2 : decide ((500 : Int) < (l2 : Int)) = false := by simp; omega
  have hz := (zero_of_info tableInfo).1
  have HSZ := Lib.hid tableSize
  have HL := Lib.hid hl
  have HR := Lib.hid hr
  have HL2 := Lib.hid hl2
  have HB2 := Lib.hid hb2
  clear hl hr hl2 hb2 hm hm2
  go_enter Try.func5, Try.ntmps5
  go_upto_region 5 with fail
  go_loopg [5, 6] l (fun gk sn si wr => ∃ (i n : Nat), i + gk = l ∧ si = .int .i64 (i : Int) ∧ sn = .int .i64 (n : Int) ∧ n = sumP (ls.take i) ∧ n ≤ 3000 * i ∧ (∀ x ∈ ls.take i, x.1.length ≤ 3000) ∧ wr = w)
  case atStart => exact ⟨0, 0, by omega, rfl, rfl, by simp [sumP], by omega, by simp, rfl⟩
  case round =>
    obtain ⟨i, n, hi, rfl, rfl, hn, hn3, hall, rfl⟩ := hrel
    have HN := Lib.hid hn
    have HA := Lib.hid hall
    clear hn hall
    by_cases hil : i < l
    · obtain ⟨x, hx⟩ : ∃ x, ls[i]? = some x := ⟨_, List.getElem?_eq_getElem (by rw [HL.out]; exact hil)⟩
      obtain ⟨b, o, rfl, hbB, hcc⟩ := HR.out.row (by rw [List.length_map, HL.out]; omega)
      have ci : wr.cell? ⟨b, o + i, none⟩ = some (pcC x) := hcc i _ (by rw [List.getElem?_map, hx]; rfl)
      have HU := Lib.hid (sumP_up hx)
      have HTU := Lib.hid (take_up hx)
      obtain ⟨r, A3, k3⟩ := x
      have ci2 : wr.cell? ⟨b, o + i, none⟩ = some (.slice A3 r.length k3) := ci
      obtain ⟨rl, hrl⟩ : ∃ rl, r.length = rl := ⟨_, rfl⟩
      have HN2 : Hid (n + rl = sumP (ls.take (i + 1))) := by show _ = _; rw [HU.out, HN.out, ← hrl]
      have HRL := Lib.hid hrl
      rw [hrl] at ci2
      clear hcc ci hx hbB hrl
      by_cases h3 : 3000 < rl
      · have u1 : (3000 : Int) < (rl : Int) := by omega
        go_wp2_with (go_at_call 7; refine (dcLives_any _).mono ?_; rintro e w4 ⟨rfl, hb4⟩; have HB4 := Lib.hid hb4; clear hb4)
        go_ret
        exact ⟨rfl, HB4.out⟩
      · have u1 : ¬ (3000 : Int) < (rl : Int) := by omega
        go_wp2
        go_roundg (gk - 1)
        case measure => omega
        case rel =>
          refine ⟨i + 1, n + rl, by omega, by go_num, by go_num, HN2.out, by omega, fun y hy => ?_, rfl⟩
          rw [HTU.out] at hy
          rcases List.mem_append.1 hy with h | h
          · exact HA.out y h
          · obtain rfl : y = (r, A3, k3) := by simpa using h
            show r.length ≤ 3000
            rw [HRL.out]
            omega
    · obtain rfl : i = l := by omega
      have htl : ls.take i = ls := by rw [← HL.out, List.take_length]
      have hall : ∀ x ∈ ls, x.1.length ≤ 65535 := fun x hx => by
        have := HA.out x (by rw [htl]; exact hx)
        omega
      have hns : n = sumP ls := by rw [← htl]; exact HN.out
      obtain ⟨hov, hdb⟩ := ofV_stream hall (by omega) (by have := HL.out; omega)
      have HEND := Lib.hid (endV_stream hall)
      have HPA := Lib.hid (pcA_stream hall)
      have HFS := Lib.hid (flat_sum ls)
      have HPLN := Lib.hid (pcsB_len ls)
      obtain ⟨w0, hw0⟩ : ∃ X, X = wr := ⟨_, rfl⟩
      subst hw0
      have HST : Hid (∀ V, Below w0.heap.size w0 V → _) := fun V hV => stream_any A i c ls V HL.out (by omega) (HR.out.below hV) (by omega)
      obtain ⟨ar, har⟩ : ∃ ar, pcsB ls ++ [0, 0] = ar := ⟨_, rfl⟩
      obtain ⟨la, hla⟩ : ∃ la, ar.length = la := ⟨_, rfl⟩
      have hla2 : 2 ≤ la ∧ la ≤ 60100 := by
        have h1 := HPLN.out
        have h2 := HL.out
        rw [← hla, ← har, List.length_append]
        simp only [List.length_cons, List.length_nil]
        omega
      rw [har] at hov hdb HEND HPA HST
      rw [hla, ← hns] at hov
      rw [hla, ← hns] at hdb
      rw [hla] at HEND
      have hsl := sumN_lt ar
      obtain ⟨s, hs⟩ : ∃ s, sumN ar = s := ⟨_, rfl⟩
      rw [hs] at hov hsl
      have HLA := Lib.hid hla
      have HOV := Lib.hid hov
      have HDB := Lib.hid hdb
      have HNS := Lib.hid hns
      clear hla hov hdb hns har hs htl hall HN HA HR HPLN
      go_wp2_with fail
      refine (make_any _).mono ?_
      rintro e w1 ⟨rfl, hb⟩
      have HB1 := Lib.hid hb
      have HG := Lib.hid (heap_alloc_last w1 (.cells (Array.replicate 256 (.int .u32 0)) 26))
      clear hb
      go_wp2_with (refine wpList_store_row rfl 26 _ _ rfl w1.heap.size tabCells rfl rfl 26 _ HG.out HSZ.out (by rw [Array.size_replicate, tabCells_size]) tabCells_one ?_; rw [World.setRow_alloc_new]; have HT2 := Lib.hid (table_new w1); have HB2' := Lib.hid (HB1.out.alloc HB1.out.size (.cells tabCells 26)); generalize w1.alloc (.cells tabCells 26) = w2 at *)
      clear hz HG HSZ
      obtain ⟨tg, htg⟩ : ∃ tg, w1.heap.size = tg := ⟨_, rfl⟩
      rw [htg] at HT2 ⊢
      clear htg
      refine (HST.out w2 HB2'.out).mono ?_
      rintro e w3 ⟨A3, la', c3, rfl, ho3, hb3⟩
      obtain rfl : la' = la := by have h1 := ho3.1; rw [byteCells_length, HLA.out] at h1; exact h1.symm
      have hcap3 := capT ho3
      have HAR : Hid (∀ V, Below w3.heap.size w3 V → Bytes V w3.heap.size A3 ar) := fun V hV => Cells.below ho3.cells hV (Nat.le_refl _)
      have HT3 : Hid (Table w3 tg) := HT2.out.below hb3 HT2.out.lt
      have HB3 : Hid (Below w0.heap.size w0 w3) := HB2'.out.trans (hb3.mono HB2'.out.size)
      clear ho3 hb3 HT2 HST HB1
      have HOF := Lib.hid (dcOf_any tg A3 la' c3 w3.heap.size ar w3 HT3.out HLA.out (by omega) hcap3 (HAR.out w3 (Below.refl _ _)) (Nat.le_refl _))
      rw [HOV.out] at HOF
      dsimp only at HOF
      go_wp2_with fail
      refine HOF.out.mono ?_
      rintro e w4 ⟨rfl, hb4⟩
      obtain ⟨W5, hW5⟩ : ∃ W5, w4.alloc (.cells #[.int .i64 (n : Int), .int .i64 (la' : Int), .int .u32 (s : Int)] 29) = W5 := ⟨_, rfl⟩
      have HD5 : Hid (Box W5 w4.heap.size #[.int .i64 (n : Int), .int .i64 (la' : Int), .int .u32 (s : Int)] 29) := by show Box _ _ _ _; rw [← hW5]; exact heap_alloc_new w4 _
      have HB35 : Hid (Below w3.heap.size w3 W5) := by show Below _ _ _; rw [← hW5]; exact hb4.alloc hb4.size _
      obtain ⟨db, hdbk⟩ : ∃ db, w4.heap.size = db := ⟨_, rfl⟩
      rw [hdbk] at HD5
      have e0 : W5.cell? ⟨db, 0, none⟩ = some (.int .i64 (n : Int)) := HD5.out.cell 0
      have e1 : W5.cell? ⟨db, 1, none⟩ = some (.int .i64 (la' : Int)) := HD5.out.cell 1
      have e2 : W5.cell? ⟨db, 2, none⟩ = some (.int .u32 (s : Int)) := HD5.out.cell 2
      go_upto_region 13 with fail
      clear hW5 hb4 hdbk HOF
      have HPU := Lib.hid (dcPut_yes tg (n : Int) (la' : Int) (s : Int) W5 HDB.out (by omega) (by omega) (HT3.out.below HB35.out HT3.out.lt))
      go_wp2_with fail
      refine HPU.out.mono ?_
      rintro e w6 ⟨A6, k6, rfl, ho6, hb6⟩
      have HDS : Hid (∀ V, Below w6.heap.size w6 V → Bytes V w6.heap.size A6 (descB (n : Int) (la' : Int) (s : Int))) := fun V hV => Cells.below ho6.cells hV (Nat.le_refl _)
      have HD6 : Hid (Box w6 db #[.int .i64 (n : Int), .int .i64 (la' : Int), .int .u32 (s : Int)] 29) := HD5.out.below hb6 HD5.out.lt
      have HB36 : Hid (Below w3.heap.size w3 w6) := HB35.out.trans (hb6.mono HB35.out.size)
      have HDL : Hid ((descB (n : Int) (la' : Int) (s : Int)).length = 20) := threeB_length _ _ _ _ rfl
      clear ho6 hb6 HPU e0 e1 e2 HD5 HB35
      have HFT := Lib.hid (fits_any tg (n : Int) (la' : Int) (s : Int) A3 la' c3 w3.heap.size ar w6 (HT3.out.below HB36.out HT3.out.lt) HLA.out (by omega) hcap3 (HAR.out w6 HB36.out) HB36.out.size)
      rw [HOV.out, fit_same] at HFT
      have e0 : w6.cell? ⟨db, 0, none⟩ = some (.int .i64 (n : Int)) := HD6.out.cell 0
      have e1 : w6.cell? ⟨db, 1, none⟩ = some (.int .i64 (la' : Int)) := HD6.out.cell 1
      have e2 : w6.cell? ⟨db, 2, none⟩ = some (.int .u32 (s : Int)) := HD6.out.cell 2
      go_wp2_with fail
      refine HFT.out.mono ?_
      rintro e w7 ⟨rfl, hb7⟩
      have HD7 : Hid (Box w7 db #[.int .i64 (n : Int), .int .i64 (la' : Int), .int .u32 (s : Int)] 29) := HD6.out.below hb7 HD6.out.lt
      have HB67 := Lib.hid hb7
      have HB37 : Hid (Below w3.heap.size w3 w7) := HB36.out.trans (hb7.mono HB36.out.size)
      have f0 : w7.cell? ⟨db, 0, none⟩ = some (.int .i64 (n : Int)) := HD7.out.cell 0
      have g0 : ((n : Int) != (n : Int)) = false := by simp
      clear hb7 HFT e0 e1 e2 HD6
      obtain ⟨W8, hW8⟩ : ∃ W8, w7.alloc (.cells #[] 5) = W8 := ⟨_, rfl⟩
      have HOE : Hid (W8.ownsRow w7.heap.size 5 1 (.slice (some ⟨w7.heap.size, 0, none⟩) 0 0) 0 []) := by show World.ownsRow _ _ _ _ _ _ _; rw [← hW8]; exact own_empty w7 _ (Nat.le_refl _)
      have HB78 : Hid (Below w7.heap.size w7 W8) := by show Below _ _ _; rw [← hW8]; exact (Below.refl _ _).alloc (Nat.le_refl _) _
      go_upto_region 16 with fail
      go_wp2_with (first
        | (at_builtin; refine wpList_app _ byteElem rfl (.tmp 88) (.tmp 89) rfl w7.heap.size (.slice (some ⟨w7.heap.size, 0, none⟩) 0 0) 0 [] rfl HOE.out w3.heap.size A3 la' c3 (byteCells ar) rfl (by rw [byteCells_length, HLA.out, Nat.mul_one]) (HAR.out _ (HB37.out.trans (HB78.out.mono HB37.out.size))) (byteCells_one _) (by unfold maxLen; omega) (by omega) HB78.out.size ?_; intro A9 c9 w9 hA; have HO9 : Hid (w9.ownsRow w7.heap.size 5 1 (.slice A9 la' c9) la' (byteCells ar)) := (by have h1 := hA.own; rw [Nat.zero_add, List.nil_append] at h1; exact h1); have HB79 : Hid (Below w7.heap.size w7 w9) := hA.below HB78.out HB78.out.size (own_base HOE.out); clear hA)
        | (at_builtin; refine wpList_app _ byteElem rfl (.tmp 90) (.tmp 91) rfl w7.heap.size (.slice A9 la' c9) la' (byteCells ar) rfl HO9.out w6.heap.size A6 20 k6 (byteCells (descB (n : Int) (la' : Int) (s : Int))) rfl (by rw [byteCells_length, HDL.out]) (HDS.out _ (HB67.out.trans (HB79.out.mono HB67.out.size))) (byteCells_one _) (by unfold maxLen; omega) (by omega) HB79.out.size ?_; intro A10 c10 w10 hA; have HO10 : Hid (w10.ownsRow w7.heap.size 5 1 (.slice A10 (la' + 20) c10) (la' + 20) (byteCells (ar ++ descB (n : Int) (la' : Int) (s : Int)))) := (by have h1 := hA.own; rw [← byteCells_append] at h1; exact h1); have HB710 : Hid (Below w7.heap.size w7 w10) := hA.below HB79.out HB79.out.size (own_base HO9.out); clear hA)
        | (at_builtin; refine wpList_app _ byteElem rfl (.tmp 92) (.tmp 93) rfl w7.heap.size (.slice A10 (la' + 20) c10) (la' + 20) (byteCells (ar ++ descB (n : Int) (la' : Int) (s : Int))) rfl HO10.out w0.heap.size A2 l2 c2 (byteCells bs2) rfl (by rw [byteCells_length, HL2.out, Nat.mul_one]) (Cells.below HB2.out (HB3.out.trans ((HB37.out.trans (HB710.out.mono HB37.out.size)).mono HB3.out.size)) (Nat.le_refl _)) (byteCells_one _) (by unfold maxLen; omega) (by omega) HB710.out.size ?_; intro A11 c11 w11 hA; have HO11 : Hid (w11.ownsRow w7.heap.size 5 1 (.slice A11 (la' + 20 + l2) c11) (la' + 20 + l2) (byteCells (ar ++ (descB (n : Int) (la' : Int) (s : Int) ++ bs2)))) := (by have h1 := hA.own; rw [← byteCells_append, List.append_assoc] at h1; exact h1); have HB711 : Hid (Below w7.heap.size w7 w11) := hA.below HB710.out HB710.out.size (own_base HO10.out); clear hA))
      obtain ⟨T, hT⟩ : ∃ T, descB (n : Int) (la' : Int) (s : Int) = T := ⟨_, rfl⟩
      have hdk := desc_back (a := ar) bs2 HDB.out hsl hT.symm
      rw [HLA.out] at hdk
      have HAL : Hid ((ar ++ (T ++ bs2)).length = la' + 20 + l2) := by
        show _ = _
        have := HDL.out
        rw [hT] at this
        rw [List.length_append, List.length_append, HLA.out, this, HL2.out]
        omega
      rw [hT] at HO11
      have HEN := Lib.hid (dcEnd_any A11 (la' + 20 + l2) c11 (ar ++ (T ++ bs2)) 0 w11 HAL.out (by omega) (Cells.of_own HO11.out))
      rw [HEND.out (T ++ bs2)] at HEN
      have hcap11 := capB HO11.out
      have HBA : Hid (∀ V, Below w11.heap.size w11 V → Bytes V w11.heap.size A11 (ar ++ (T ++ bs2))) := fun V hV => Cells.below (Cells.of_own HO11.out) hV (Nat.le_refl _)
      have HD11 : Hid (Box w11 db #[.int .i64 (n : Int), .int .i64 (la' : Int), .int .u32 (s : Int)] 29) := HD7.out.below HB711.out HD7.out.lt
      have HB311 : Hid (Below w3.heap.size w3 w11) := HB37.out.trans (HB711.out.mono HB37.out.size)
      clear HO11 HB711 HO10 HO9 HB710 HB79 HOE HB78 hW8 HD7 HB37 HB67 f0 g0 HDS HDL HB36
      refine HEN.out.mono ?_
      rintro e w12 ⟨rfl, hb12⟩
      have HTK := Lib.hid (dcTake_any tg A11 (la' + 20 + l2) c11 (ar ++ (T ++ bs2)) w11.heap.size (la' : Int) w12 (HT3.out.below (HB311.out.trans (hb12.mono HB311.out.size)) HT3.out.lt) HAL.out (by omega) hcap11 (HBA.out w12 hb12) hb12.size)
      rw [hdk.1, hdk.2] at HTK
      have HD12 : Hid (Box w12 db #[.int .i64 (n : Int), .int .i64 (la' : Int), .int .u32 (s : Int)] 29) := HD11.out.below hb12 HD11.out.lt
      have HB312 : Hid (Below w3.heap.size w3 w12) := HB311.out.trans (hb12.mono HB311.out.size)
      clear hb12 hdk HEN HD11 HB311 HBA hT
      go_wp2_with fail
      refine HTK.out.mono ?_
      rintro e w13 ⟨rfl, hb13⟩
      obtain ⟨W14, hW14⟩ : ∃ W14, w13.alloc (.cells #[.int .i64 (n : Int), .int .i64 (la' : Int), .int .u32 (s : Int)] 29) = W14 := ⟨_, rfl⟩
      have HD14 : Hid (Box W14 db #[.int .i64 (n : Int), .int .i64 (la' : Int), .int .u32 (s : Int)] 29) := by show Box _ _ _ _; rw [← hW14]; exact (HD12.out.below hb13 HD12.out.lt).alloc _
      have HE14 : Hid (Box W14 w13.heap.size #[.int .i64 (n : Int), .int .i64 (la' : Int), .int .u32 (s : Int)] 29) := by show Box _ _ _ _; rw [← hW14]; exact heap_alloc_new w13 _
      have HB314 : Hid (Below w3.heap.size w3 W14) := by
        show Below _ _ _
        rw [← hW14]
        have h1 := HB312.out.trans (hb13.mono HB312.out.size)
        exact h1.alloc h1.size _
      have HRP : Hid (Calls Try.prog 18 #[.slice A3 la' c3] W14 fun e w' => PcPost ar W14 e w') := refPieces_any A3 la' c3 w3.heap.size ar W14 HLA.out (by omega) hcap3 (HAR.out W14 HB314.out) HB314.out.size
      clear hb13 HTK HD12 HB312
      go_wp2_with fail
      refine HRP.out.mono ?_
      intro e w15 hpp
      obtain ⟨v, n5, cp5, A15, rfl, rfl, hp3, _, hb15⟩ := hpp
      rw [HPA.out] at hp3
      obtain rfl : n5 = n := by
        have h1 := (hp3 rfl).1
        rw [byteCells_length] at h1
        have h2 := HFS.out
        have h3 := HNS.out
        dsimp only at h1
        omega
      have HB315 : Hid (Below w0.heap.size w0 w15) := by
        have h1 := HB314.out.trans (hb15.mono HB314.out.size)
        exact HB3.out.trans (h1.mono HB3.out.size)
      have hD := HD14.out.below hb15 HD14.out.lt
      have hE := HE14.out.below hb15 HE14.out.lt
      have e0 : w15.cell? ⟨db, 0, none⟩ = some (.int .i64 (n5 : Int)) := hD.cell 0
      have e1 : w15.cell? ⟨db, 1, none⟩ = some (.int .i64 (la' : Int)) := hD.cell 1
      have e2 : w15.cell? ⟨db, 2, none⟩ = some (.int .u32 (s : Int)) := hD.cell 2
      have q0 : w15.cell? ⟨w13.heap.size, 0, none⟩ = some (.int .i64 (n5 : Int)) := hE.cell 0
      have q1 : w15.cell? ⟨w13.heap.size, 1, none⟩ = some (.int .i64 (la' : Int)) := hE.cell 1
      have q2 : w15.cell? ⟨w13.heap.size, 2, none⟩ = some (.int .u32 (s : Int)) := hE.cell 2
      have k0 : ((n5 : Int) == (n5 : Int)) = true := by simp
      have k1 : ((la' : Int) == (la' : Int)) = true := by simp
      have k2 : ((s : Int) == (s : Int)) = true := by simp
      rw [HPA.out]
      clear hp3 hb15 hD hE HRP HD14 HE14 HB314 hW14
      go_wp2_with (go_at_call 7; refine (dcLives_any _).mono ?_; rintro e w9 ⟨rfl, hb9⟩; have HB9 := Lib.hid hb9; clear hb9)
      go_ret
      exact ⟨rfl, HB315.out.trans (HB9.out.mono HB315.out.size)⟩
end Go.Proofs.Ytnccbnadfgilaaa
