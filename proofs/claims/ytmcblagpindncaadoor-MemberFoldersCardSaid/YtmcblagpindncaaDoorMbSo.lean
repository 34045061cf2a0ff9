/- Layer 15: MemberSorts walked. -/
import Derived.Test.YtmcblagpindncaaDoorMbF
namespace Go.Proofs.YtmcblagpindncaaDoor
open Go.RowKit

set_option maxRecDepth 100000 in
set_option maxHeartbeats 4000000 in
theorem membersorts_any (A : Option Addr) (l c : Nat) (ss : List (List UInt8)) (s : ByteArray) (w : World) (hl : ss.length = l) (hb : Cells w w.heap.size A (textCells ss)) :
    Calls Tryd.prog 5 #[.slice A l c, .string s] w fun e w' => e = .returned (.bool true) ∧ Below w.heap.size w w' := by
  have HGR := Lib.hid (great15_any A l c ss w.heap.size w hl hb)
  have HLV := Lib.hid (fun W => lives15_any W)
  have HL := Lib.hid hl
  have HC := Lib.hid hb
  clear hl hb
  go_enter Tryd.func5, Tryd.ntmps5
  go_wp2_with fail
  refine HGR.out.mono ?_
  rintro e w' ⟨og, rfl, rfl, hnar⟩
  cases og with
  | true =>
    go_wp2_with (go_at_call 7; refine (HLV.out _).mono ?_; rintro e w' ⟨rfl, hbel⟩; have HB := Lib.hid hbel; clear hbel)
    go_ret
    exact ⟨rfl, HB.out⟩
  | false =>
    obtain ⟨h60, h200⟩ := hnar rfl
    have H200 := Lib.hid h200
    have hl60 : l ≤ 60 := by have := HL.out; omega
    clear HGR hnar h200 h60
    by_cases hs : 200 < s.size
    · have hd : (200 : Int) < (s.size : Int) := by omega
      clear hs
      go_wp2_with (go_at_call 7; refine (HLV.out _).mono ?_; rintro e w' ⟨rfl, hbel⟩; have HB := Lib.hid hbel; clear hbel)
      go_ret
      exact ⟨rfl, HB.out⟩
    · have hd : ¬ (200 : Int) < (s.size : Int) := by omega
      clear hs
      have HS := Lib.hid (sortM_any A l c ss w.heap.size w HL.out (by omega) HC.out (Nat.le_refl _))
      have HRI := Lib.hid (sortB_ris ss)
      have HSL := Lib.hid (sortB_len ss)
      obtain ⟨os, hos⟩ : ∃ os, sortB ss = os := ⟨_, rfl⟩
      have HRS := Lib.hid (fun W (hW : Below w.heap.size w W) => refSortT_any A l c ss w.heap.size W HL.out (by omega) (HC.out.below hW (Nat.le_refl _)) hW.size)
      rw [hos] at HS HRI HSL HRS
      obtain ⟨n, hn⟩ : ∃ n, os.length = n := ⟨_, rfl⟩
      have HN := Lib.hid hn
      have hnl : n ≤ 60 := by have h1 := HSL.out; have h2 := HL.out; omega
      rw [hn] at HS HRS
      clear hos hn
      go_wp2_with fail
      refine HS.out.mono ?_
      rintro e w1 ⟨A1, c1, rfl, ho1, hb1⟩
      have HB1 := Lib.hid hb1
      have HC1 := Lib.hid (textCells_own ho1)
      clear ho1 hb1 HS
      go_wp2_with fail
      refine (HRS.out _ HB1.out).mono ?_
      rintro e w2 ⟨A2, c2, rfl, ho2, hb2⟩
      have HB2 := Lib.hid (HB1.out.trans (hb2.mono HB1.out.size))
      have HC2 := Lib.hid (textCells_own ho2)
      have HD2 := Lib.hid ((HC1.out.below hb2 (Nat.le_refl _)))
      have HSZ2 := Lib.hid hb2.size
      clear ho2 hb2 HRS
      go_wp2_with fail
      refine (sameT_any A1 n c1 A2 c2 os w2.heap.size w2 HN.out (by omega) (HD2.out.more HSZ2.out) HC2.out).mono ?_
      rintro e w3 ⟨rfl, m3, hw3⟩
      have HB3 : Hid (Below w.heap.size w w3) := by show Below _ _ _; rw [← hw3]; exact Below.drewN HB2.out _
      have HC3 : Hid (Cells w3 w1.heap.size A1 (textCells os)) := by show Cells _ _ _ _; rw [← hw3]; exact HD2.out.drewN' m3
      have HS3 : Hid (w1.heap.size ≤ w3.heap.size) := by show _ ≤ _; rw [← hw3]; exact HSZ2.out
      clear hw3
      obtain ⟨p, hp⟩ : ∃ p, posK kB os s = p := ⟨_, rfl⟩
      have HP := Lib.hid hp
      have hpl : p ≤ n := by rw [← hp, ← HN.out]; exact posK_le _ _
      clear hp
      go_wp2
      go_loopg [6, 7, 8] n (fun gk va vi i wr => ∃ k a : Nat, ∃ ib : Bool, k + gk = n ∧ i = .int .i64 (k : Int) ∧ va = .int .i64 (a : Int) ∧ vi = .bool ib ∧ a = min k p ∧ ib = (os.take k).any (fun x => decide (kB x = s)) ∧ wr = w3)
      case atStart => exact ⟨0, 0, false, by omega, rfl, rfl, rfl, by omega, rfl, rfl⟩
      case round =>
        obtain ⟨k, a, ib, hk, rfl, rfl, rfl, ha, hib, rfl⟩ := hrel
        by_cases h : k < n
        · obtain ⟨y, hy⟩ : ∃ y, os[k]? = some y := ⟨_, List.getElem?_eq_getElem (by have := HN.out; omega)⟩
          obtain ⟨b, o, rfl, _, hc⟩ := HC3.out (by rw [text_len]; have := HN.out; omega)
          have c0 := hc k _ (textCells_get hy)
          have hki : (k : Int) < (n : Int) := by omega
          have hw1 : IntKind.i64.wrap ((k : Int) + 1) = (k : Int) + 1 := IntWalk.i64_in _ (by omega)
          have hw2 : IntKind.i64.wrap ((a : Int) + 1) = (a : Int) + 1 := IntWalk.i64_in _ (by omega)
          have HTA : Hid ((os.take (k + 1)).any (fun x => decide (kB x = s)) = (ib || decide (kB y = s))) := by
            show _ = _
            rw [takeT_snoc hy, List.any_append, hib]
            simp
          have hlt := posK_iff HRI.out s k y hy
          rw [HP.out] at hlt
          obtain ⟨sy, hsy⟩ : ∃ sy, (⟨y.toArray⟩ : ByteArray) = sy := ⟨_, rfl⟩
          rw [hsy] at c0
          rw [show kB y = sy from hsy] at hlt HTA
          unfold ltN at hlt
          have he1 := nmEq_dec sy s
          have HIB := Lib.hid hib
          have HAE := Lib.hid ha
          by_cases hss : sy = s
          · subst hss
            have hq : Op.bytesLess sy.toList sy.toList = false := bl_irrefl _
            have hkp : ¬ k < p := fun hh => by have := hlt.2 hh; rw [hq] at this; cases this
            rw [decide_eq_true rfl] at HTA
            clear hc hy hsy hib ha hlt he1
            cases ib with
            | true =>
              go_wp2
              go_roundg (gk - 1)
              case measure => omega
              case rel => exact ⟨k + 1, a, true, by omega, by go_num, rfl, rfl, by have := HAE.out; omega, HTA.out.symm, rfl⟩
            | false =>
              go_wp2
              go_roundg (gk - 1)
              case measure => omega
              case rel => exact ⟨k + 1, a, true, by omega, by go_num, rfl, rfl, by have := HAE.out; omega, HTA.out.symm, rfl⟩
          · rw [decide_eq_false hss] at HTA he1
            have he2 : ¬ sy.toList = s.toList := by rw [← beq_iff_eq, he1]; decide
            obtain ⟨q, hq⟩ : ∃ q, Op.bytesLess sy.toList s.toList = q := ⟨_, rfl⟩
            rw [hq] at hlt
            have HLT := Lib.hid hlt
            clear hc hy hsy hib ha hlt hss
            cases q with
            | true =>
              have hkp : k < p := HLT.out.1 rfl
              cases ib with
              | true =>
                go_wp2
                go_roundg (gk - 1)
                case measure => omega
                case rel => exact ⟨k + 1, a + 1, true, by omega, by go_num, by go_num, rfl, by have := HAE.out; omega, HTA.out.symm, rfl⟩
              | false =>
                go_wp2
                go_roundg (gk - 1)
                case measure => omega
                case rel => exact ⟨k + 1, a + 1, false, by omega, by go_num, by go_num, rfl, by have := HAE.out; omega, HTA.out.symm, rfl⟩
            | false =>
              have hkp : ¬ k < p := fun hh => by have := HLT.out.2 hh; cases this
              cases ib with
              | true =>
                go_wp2
                go_roundg (gk - 1)
                case measure => omega
                case rel => exact ⟨k + 1, a, true, by omega, by go_num, rfl, rfl, by have := HAE.out; omega, HTA.out.symm, rfl⟩
              | false =>
                go_wp2
                go_roundg (gk - 1)
                case measure => omega
                case rel => exact ⟨k + 1, a, false, by omega, by go_num, rfl, rfl, by have := HAE.out; omega, HTA.out.symm, rfl⟩
        · obtain rfl : k = n := by omega
          have hap : a = p := by omega
          have hih : hasK kB os s = ib := by rw [hib, List.take_of_length_le (by have := HN.out; omega)]; rfl
          have HF := Lib.hid (findM_any A1 k c1 os s w1.heap.size wr HN.out (by omega) HRI.out HC3.out HS3.out)
          rw [HP.out, hih, ← hap] at HF
          clear hib ha hap hih hpl HP
          go_wp2_with (first
            | (go_at_call 21; refine HF.out.mono ?_; rintro e w4 ⟨rfl, hb4⟩; have HB4 := Lib.hid (HB3.out.trans (hb4.mono HB3.out.size)); clear hb4)
            | (go_at_call 7; refine (HLV.out _).mono ?_; rintro e w5 ⟨rfl, hb5⟩; have HB5 := Lib.hid (HB4.out.trans (hb5.mono HB4.out.size)); clear hb5))
          go_ret
          exact ⟨rfl, HB5.out⟩
end Go.Proofs.YtmcblagpindncaaDoor
