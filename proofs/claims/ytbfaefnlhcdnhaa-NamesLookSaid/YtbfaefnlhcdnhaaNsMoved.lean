/- Layer 5: the law NamesMoved. -/
import Derived.Test.YtbfaefnlhcdnhaaNsPlay
import Derived.Test.YtbfaefnlhcdnhaaNsW
namespace Go.Proofs.Ytbfaefnlhcdnhaa
open Go.RowKit Go.Maps

theorem step_bel {W0 w w' : World} {B : Nat} {F F' : Nat → Prop} (hb : Below B W0 w) (hB : B ≤ w.heap.size) (hF : ∀ k, F k → B ≤ k) (h : StepF F F' w w') : Below B W0 w' ∧ ∀ k, F' k → B ≤ k :=
  ⟨h.mod.below hb hB hF, fun k hk => by
    rcases h.new k hk with h' | h'
    · exact hF k h'
    · omega⟩
theorem moved_there {L : List Nt} (hr : Ris Nt.nm L) (hn : hasK Nt.nm L noN = false) {a b : ByteArray} (he : rnE L a b = 0) :
    idAt (step1 L ⟨a, b, 0⟩) b = idAt L a ∧ hasK Nt.nm (step1 L ⟨a, b, 0⟩) b = true ∧ hasK Nt.nm (step1 L ⟨a, b, 0⟩) a = decide (a = b) := by
  obtain ⟨h1, h2⟩ := rnE_zero he
  rw [step_rename hr (has_ne hn h2) (right_ne h1) (idAt_mem h2)]
  have hm : (⟨b, idAt L a⟩ : Nt) ∈ withK Nt.nm (outK Nt.nm L a) ⟨b, idAt L a⟩ := mem_with.2 (.inl rfl)
  refine ⟨?_, hasK_iff.2 ⟨_, hm, rfl⟩, ?_⟩
  · unfold idAt
    have hf := find_mem ((hr.outK a).withK ⟨b, idAt L a⟩) hm
    show (match findK Nt.nm (withK Nt.nm (outK Nt.nm L a) ⟨b, idAt L a⟩) b with | some e => e.id | none => 0) = idAt L a
    rw [hf]
  · by_cases h : a = b
    · subst h
      rw [decide_eq_true rfl]
      exact hasK_iff.2 ⟨_, hm, rfl⟩
    · rw [decide_eq_false h]
      exact hasK_not.2 (fun x hx => by
        rcases mem_with.1 hx with rfl | ⟨hx, _⟩
        · exact fun e => h e.symm
        · exact (mem_out.1 hx).2)
set_option maxRecDepth 100000 in
set_option maxHeartbeats 2000000 in
theorem moved5_any (A : Option Addr) (l c : Nat) (xs : List LOp) (a b : ByteArray) (n : Int) (w : World) (hl : xs.length = l) (hb : Cells w w.heap.size A (opCells xs)) (hn : ∀ x ∈ xs, (Lit.int .i64 x.n).wf = true) :
    Calls Try.prog 6 #[.slice A l c, .agg #[.string a, .string b, .int .i64 n]] w fun e w' => e = .returned (.bool true) ∧ Below w.heap.size w w' := by
  obtain ⟨W0, hW0⟩ : ∃ W0, w.alloc (.cells #[.string a, .string b, .int .i64 n] 56) = W0 := ⟨_, rfl⟩
  have hz0 : W0.heap.size = w.heap.size + 1 := by rw [← hW0, World.size_alloc]
  have hb0 : Below w.heap.size w W0 := by rw [← hW0]; exact (Below.refl _ w).alloc (Nat.le_refl _) _
  have hx0 : W0.heap[w.heap.size]? = some (.cells #[.string a, .string b, .int .i64 n] 56 (0, 0)) := by rw [← hW0]; exact heap_alloc_new w _
  have HX : Hid (∀ W, Below W0.heap.size W0 W → W.cell? ⟨w.heap.size, 0, none⟩ = some (.string a) ∧ W.cell? ⟨w.heap.size, 1, none⟩ = some (.string b) ∧ W.cell? ⟨w.heap.size, 2, none⟩ = some (.int .i64 n)) := fun W hW => by
    have h := (hW.block w.heap.size (by omega)).trans hx0
    exact ⟨cell_of_row _ _ _ _ _ _ h, cell_of_row _ _ _ _ _ _ h, cell_of_row _ _ _ _ _ _ h⟩
  have HL := Lib.hid hl
  have HC := Lib.hid ((hb.below hb0 (Nat.le_refl _)).more hb0.size)
  have HN := Lib.hid hn
  have HG := Lib.hid (great5_any A l c xs W0.heap.size W0 hl HC.out)
  have HLV : Hid (∀ W, Below W0.heap.size W0 W → Calls Try.prog 8 #[] W fun e w' => e = .returned (.bool true) ∧ Below w.heap.size w w') := fun W hW => (lives5_any W).mono fun e w' h => ⟨h.1, hb0.trans ((hW.trans (h.2.mono hW.size)).mono (by omega))⟩
  obtain ⟨x0, x1, x2⟩ := HX.out W0 (Below.refl _ _)
  have HGN := Lib.hid (goes_new W0)
  clear hl hb hn hz0 hb0 hx0
  go_enter Try.func6, Try.ntmps6
  go_wp2_with fail
  refine HG.out.mono ?_
  rintro e w1 ⟨o1, rfl, hw1, ho1⟩
  subst hw1
  cases o1 with
  | true =>
    go_wp2_with fail
    refine (HLV.out _ (Below.refl _ _)).mono ?_
    rintro e wL ⟨rfl, hbL⟩
    go_wp2
    go_ret
    exact ⟨rfl, hbL⟩
  | false =>
    have HO := Lib.hid (ho1 rfl)
    clear ho1
    by_cases ha : 300 < a.size
    · have hai : (300 : Int) < (a.size : Int) := by omega
      go_wp2_with fail
      refine (HLV.out _ (Below.refl _ _)).mono ?_
      rintro e wL ⟨rfl, hbL⟩
      go_wp2
      go_ret
      exact ⟨rfl, hbL⟩
    · have hai : ¬ (300 : Int) < (a.size : Int) := by omega
      by_cases hbz : 300 < b.size
      · have hbi : (300 : Int) < (b.size : Int) := by omega
        go_wp2_with fail
        refine (HLV.out _ (Below.refl _ _)).mono ?_
        rintro e wL ⟨rfl, hbL⟩
        go_wp2
        go_ret
        exact ⟨rfl, hbL⟩
      · have hbi : ¬ (300 : Int) < (b.size : Int) := by omega
        have hl60 : l ≤ 60 := by have := HO.out.1; have := HL.out; omega
        obtain ⟨B, hB⟩ : ∃ B, W0.heap.size = B := ⟨_, rfl⟩
        have HBB := Lib.hid hB
        clear hW0
        go_wp2
        go_loopg [7] l (fun gk i wr => ∃ (k : Nat) (F G : Nat → Prop) (s : Nst), k + gk = l ∧ i = .int .i64 k ∧ GoesN W0 W0.heap.size wr W0.heap.size (W0.heap.size + 1) F G s k)
        case atStart => exact ⟨0, _, _, s00, by omega, rfl, HGN.out⟩
        case round =>
          obtain ⟨k, F, G, s, hk, rfl, hgo⟩ := hrel
          have HGO := Lib.hid hgo
          rw [hB] at HGO HX HLV
          clear hgo
          by_cases h : k < l
          · obtain ⟨x, hx⟩ : ∃ x, xs[k]? = some x := ⟨_, List.getElem?_eq_getElem (by have := HL.out; omega)⟩
            obtain ⟨b', o, rfl, hbB, hc⟩ := HC.out (by rw [op_len]; have := HL.out; omega)
            obtain ⟨c0, c1, c2, c3⟩ := op_at (fun j u hj => (HGO.out.bel.cell (p := ⟨b', o + j, none⟩) (by rw [← hB]; exact hbB)).trans (hc j u hj)) hx
            have hxm := List.mem_of_getElem? hx
            have HXS := Lib.hid (HO.out.2 x hxm)
            have hBs : B ≤ wr.heap.size := by have := HGO.out.bel.size; omega
            have HDO := Lib.hid (does_any B (B + 1) F G s x wr HGO.out.both (by have := HGO.out.many; omega) (by have := HXS.out.1; omega) (by have := HXS.out.2; omega) (HN.out x hxm) (.inl HGO.out.pre))
            have hki : (k : Int) < (l : Int) := by omega
            have hw1 : IntKind.i64.wrap ((k : Int) + 1) = (k : Int) + 1 := IntWalk.i64_in _ (by omega)
            clear hc hx hxm
            go_wp2_with fail
            refine HDO.out.mono ?_
            rintro e w5 ⟨rfl, F', G', hwt⟩
            have hmany := opN_many HGO.out.both.ok x.kind x.a x.b x.n
            have HG5 := Lib.hid (HGO.out.went hBs hwt (by have := HGO.out.many; omega) (opN_pre HGO.out.pre _ _ _ _))
            clear hwt hmany
            go_wp2
            go_roundg (gk - 1)
            case measure => omega
            case rel => exact ⟨k + 1, F', G', _, by omega, by go_num, by rw [HBB.out]; exact HG5.out⟩
          · obtain rfl : k = l := by omega
            have hBs : B ≤ wr.heap.size := by have := HGO.out.bel.size; omega
            obtain ⟨L, hL⟩ : ∃ L, s.now = L := ⟨_, rfl⟩
            have hLr : Ris Nt.nm L := by rw [← hL]; exact HGO.out.both.ok.now_ris
            have hLn : hasK Nt.nm L noN = false := by rw [← hL]; exact HGO.out.both.ok.now_none
            have hLl : L.length ≤ 60 := by rw [← hL]; have := HGO.out.both.ok.now_len; have := HGO.out.many; have := s.ws_le; omega
            have hds := HGO.out.both.dir
            rw [hL] at hds
            have HSY := Lib.hid (sync5_any B F L s.safe s.ws wr hds)
            have HBL := Lib.hid HGO.out.bel
            have HFB := Lib.hid HGO.out.fb
            clear hds hL
            go_wp2_with fail
            refine HSY.out.mono ?_
            rintro e w2 ⟨rfl, F2, hd2, hs2⟩
            obtain ⟨hb2, hf2⟩ := step_bel HBL.out hBs HFB.out hs2
            have HD2 := Lib.hid hd2
            have HB2 := Lib.hid hb2
            have HF2 := Lib.hid hf2
            have hBs2 : B ≤ w2.heap.size := Nat.le_trans hBs hs2.mod.size
            obtain ⟨y0, y1, y2⟩ := HX.out w2 hb2
            have HLA := Lib.hid (lookup5_any B F2 L L [] a w2 hd2 hLr (by omega))
            have HRN := Lib.hid (rename5_any B F2 L L [] a b w2 hd2 hLr (by decide) (by omega) (by omega))
            obtain ⟨q, hq⟩ : ∃ q, hasK Nt.nm L a = q := ⟨_, rfl⟩
            rw [hq] at HLA
            clear hd2 hs2 hb2 hf2 x0 x1 x2 HSY
            go_wp2_with fail
            refine HLA.out.mono ?_
            rintro e w3 ⟨rfl, hw3⟩
            subst hw3
            go_wp2_with fail
            refine HRN.out.mono ?_
            rintro e w4 ⟨rfl, F4, hd4, hs4⟩
            obtain ⟨hb4, hf4⟩ := step_bel HB2.out hBs2 HF2.out hs4
            have HB4 := Lib.hid hb4
            have HF4 := Lib.hid hf4
            have hBs4 : B ≤ w4.heap.size := Nat.le_trans hBs2 hs4.mod.size
            clear y0 y1 y2
            obtain ⟨y0, y1, y2⟩ := HX.out w4 hb4
            have HNM := Lib.hid (named5_any b w4)
            cases hrb : rightN b with
            | false =>
              have hE : rnE L a b = 6 := by unfold rnE; rw [hrb]; rfl
              rw [hE]
              rw [hrb] at HNM
              clear hd4 hs4 hb4 hf4 hE hrb hq
              cases q with
              | false =>
                go_wp2_with fail
                refine (HLV.out _ HB4.out).mono ?_
                rintro e wL ⟨rfl, hbL⟩
                go_wp2
                go_ret
                exact ⟨rfl, hbL⟩
              | true =>
                go_wp2_with fail
                refine HNM.out.mono ?_
                rintro e w5 ⟨rfl, hw5⟩
                subst hw5
                go_wp2_with fail
                refine (HLV.out _ HB4.out).mono ?_
                rintro e wL ⟨rfl, hbL⟩
                go_wp2
                go_ret
                exact ⟨rfl, hbL⟩
            | true =>
              cases q with
              | false =>
                have hE : rnE L a b = 7 := by unfold rnE; rw [hrb, hq]; rfl
                rw [hE]
                clear hd4 hs4 hb4 hf4 hE hrb hq
                go_wp2_with fail
                refine (HLV.out _ HB4.out).mono ?_
                rintro e wL ⟨rfl, hbL⟩
                go_wp2
                go_ret
                exact ⟨rfl, hbL⟩
              | true =>
                have hE : rnE L a b = 0 := by unfold rnE; rw [hrb, hq]; rfl
                obtain ⟨t1, t2, t3⟩ := moved_there hLr hLn hE
                rw [hE] at hd4 ⊢
                have hd4' : DirS w4 B F4 (step1 L ⟨a, b, 0⟩) L [⟨a, b, 0⟩] := hd4
                have HCR := Lib.hid (crash5_any B F4 _ L _ n w4 hd4' hLr (by omega) (by simp) (fun c hc => by rw [List.mem_singleton] at hc; subst hc; exact ⟨(show a.size ≤ 1000 by omega), (show b.size ≤ 1000 by omega), wf0⟩))
                clear hd4 hd4' hs4 hb4 hf4 hrb
                go_wp2_with fail
                refine HCR.out.mono ?_
                rintro e w6 ⟨rfl, F6, hd6, hs6⟩
                obtain ⟨hb6, hf6⟩ := step_bel HB4.out hBs4 HF4.out hs6
                have HB6 := Lib.hid hb6
                clear y0 y1 y2
                obtain ⟨y0, y1, y2⟩ := HX.out w6 hb6
                by_cases hnn : 0 < n
                · have e6 : doN L ([⟨a, b, 0⟩].take n.toNat) = step1 L ⟨a, b, 0⟩ := by
                    rw [List.take_of_length_le (by simp; omega)]; rfl
                  rw [e6] at hd6
                  have HK1 := Lib.hid (lookup5_any B F6 _ _ [] a w6 hd6 (step1_ris hLr _) (by omega))
                  have HK2 := Lib.hid (lookup5_any B F6 _ _ [] b w6 hd6 (step1_ris hLr _) (by omega))
                  rw [t3] at HK1
                  rw [t1, t2] at HK2
                  obtain ⟨pp, hpp⟩ : ∃ pp, idAt (step1 L ⟨a, b, 0⟩) a = pp := ⟨_, rfl⟩
                  rw [hpp] at HK1
                  clear hpp hd6 hs6 hb6 hf6 e6 t1 t2 t3 HCR
                  go_wp2_with fail
                  refine HK1.out.mono ?_
                  rintro e w7 ⟨rfl, hw7⟩
                  subst hw7
                  go_wp2_with fail
                  refine HK2.out.mono ?_
                  rintro e w7 ⟨rfl, hw7⟩
                  subst hw7
                  by_cases hab : a = b
                  · have q1 : (a.toList == b.toList) = true := by rw [hab]; simp
                    have q2 : a.toList = b.toList := by rw [hab]
                    rw [decide_eq_true hab]
                    clear hab
                    go_wp2_with fail
                    refine (HLV.out _ HB6.out).mono ?_
                    rintro e wL ⟨rfl, hbL⟩
                    go_wp2
                    go_ret
                    exact ⟨rfl, hbL⟩
                  · rw [decide_eq_false hab]
                    clear hab
                    go_wp2_with fail
                    refine (HLV.out _ HB6.out).mono ?_
                    rintro e wL ⟨rfl, hbL⟩
                    go_wp2
                    go_ret
                    exact ⟨rfl, hbL⟩
                · have e6 : doN L ([⟨a, b, 0⟩].take n.toNat) = L := by
                    rw [show n.toNat = 0 by omega]; rfl
                  rw [e6] at hd6
                  have HK1 := Lib.hid (lookup5_any B F6 _ _ [] a w6 hd6 hLr (by omega))
                  have HK2 := Lib.hid (lookup5_any B F6 _ _ [] b w6 hd6 hLr (by omega))
                  rw [hq] at HK1
                  obtain ⟨pp, hpp⟩ : ∃ pp, idAt L b = pp := ⟨_, rfl⟩
                  obtain ⟨qq, hqq⟩ : ∃ qq, hasK Nt.nm L b = qq := ⟨_, rfl⟩
                  rw [hpp, hqq] at HK2
                  clear hpp hqq hd6 hs6 hb6 hf6 e6 t1 t2 t3 HCR
                  go_wp2_with fail
                  refine HK1.out.mono ?_
                  rintro e w7 ⟨rfl, hw7⟩
                  subst hw7
                  go_wp2_with fail
                  refine HK2.out.mono ?_
                  rintro e w7 ⟨rfl, hw7⟩
                  subst hw7
                  go_wp2_with fail
                  refine (HLV.out _ HB6.out).mono ?_
                  rintro e wL ⟨rfl, hbL⟩
                  go_wp2
                  go_ret
                  exact ⟨rfl, hbL⟩
end Go.Proofs.Ytbfaefnlhcdnhaa
