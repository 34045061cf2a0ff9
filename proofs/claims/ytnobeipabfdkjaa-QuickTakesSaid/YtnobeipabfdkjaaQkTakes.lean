/- Layer 34: QuickTakes walked. -/
import Derived.Test.YtnobeipabfdkjaaQkRfT
import Derived.Test.YtnobeipabfdkjaaQkNil
namespace Go.Proofs.Ytnobeipabfdkjaa
open Go.RowKit Go.Maps BitsP

theorem some_max : ∀ {zs : List Int}, zs ≠ [] → ∃ m, isMax zs m
  | [], h => absurd rfl h
  | x :: l, _ => by
    by_cases hl : l = []
    · subst hl
      exact ⟨x, by simp, by simp⟩
    · obtain ⟨m, h1, h2⟩ := some_max hl
      by_cases hx : x ≤ m
      · refine ⟨m, fun y hy => ?_, by simp [h2]⟩
        rcases List.mem_cons.1 hy with rfl | hy
        · exact hx
        · exact h1 y hy
      · refine ⟨x, fun y hy => ?_, by simp⟩
        rcases List.mem_cons.1 hy with rfl | hy
        · exact Int.le_refl _
        · have := h1 y hy; omega
theorem nat_max {zs : List Int} (hr : caR zs = true) : ∃ m : Nat, isMax zs (m : Int) := by
  obtain ⟨m, hm⟩ := some_max (zs := zs) (fun e => by rw [e, caR_empty] at hr; cases hr)
  have h := lenB_yes ((caR_len hr).2 m hm.2)
  exact ⟨m.toNat, by rw [Int.toNat_of_nonneg h.1]; exact hm⟩
theorem wid_in (k : Int) : 1 ≤ wid k ∧ wid k ≤ 15 := by unfold wid; omega
theorem takeR_on {zs : List Int} {m : Nat} {U : List Bool} {s e : Int} {on : Nat} (h : TakeR zs m U s e on) : on ≤ U.length := by
  rcases h with ⟨_, _, _, _, h, _⟩ | ⟨_, h, _⟩ <;> omega
set_option maxRecDepth 100000 in
set_option maxHeartbeats 400000 in
theorem qtakes_any (A A2 : Option Addr) (l c l2 c2 : Nat) (zs : List Int) (bs : List UInt8) (k : Int) (w : World) (hl : zs.length = l) (hm : l ≤ 9223372036854775807) (hb : Cells w w.heap.size A (zs.map ic)) (hl2 : bs.length = l2) (hm2 : l2 ≤ 9223372036854775807) (hb2 : Bytes w w.heap.size A2 bs) :
    Calls Try.prog 6 #[.slice A l c, .int .i64 k, .slice A2 l2 c2] w fun e w' => e = .returned (.bool true) ∧ Below w.heap.size w w' := by
  have HLV := Lib.hid lives34_any
  by_cases hl330 : 330 < l
  · have hd : decide ((330 : Int) < (l : Int)) = true := by simp; omega
    clear hl hb hl2 hb2
    go_enter Try.func6, Try.ntmps6
    go_wp2_with (go_at_call 10; refine (HLV.out _).mono ?_; rintro e w4 ⟨rfl, hb4⟩; have HB4 := Lib.hid hb4; clear hb4)
    go_ret
    exact ⟨rfl, HB4.out⟩
  have hd : decide ((330 : Int) < (l : Int)) = false := by simp; omega
  by_cases hl200 : 200 < l2
  · have hd2 : decide ((200 : Int) < (l2 : Int)) = true := by simp; omega
    clear hl hb hl2 hb2
    go_enter Try.func6, Try.ntmps6
    go_wp2_with (go_at_call 10; refine (HLV.out _).mono ?_; rintro e w4 ⟨rfl, hb4⟩; have HB4 := Lib.hid hb4; clear hb4)
    go_ret
    exact ⟨rfl, HB4.out⟩
  have hd2 : decide ((200 : Int) < (l2 : Int)) = false := by simp; omega
  have HRT := Lib.hid (ref8Right_any A l c zs w.heap.size w hl (by omega) hb)
  cases hr : caR zs with
  | false =>
    rw [hr] at HRT
    clear hl hb hl2 hb2 hr
    go_enter Try.func6, Try.ntmps6
    go_wp2_with (first
      | (go_at_call 12; refine HRT.out.mono ?_; rintro e w1 ⟨rfl, rfl⟩)
      | (go_at_call 10; refine (HLV.out _).mono ?_; rintro e w4 ⟨rfl, hb4⟩; have HB4 := Lib.hid hb4; clear hb4))
    go_ret
    exact ⟨rfl, HB4.out⟩
  | true =>
    rw [hr] at HRT
    have h320 := (caR_len hr).1
    have HZS : Hid (∀ V, Below w.heap.size w V → Cells V V.heap.size A (zs.map ic)) := fun V hV => (hb.below hV (Nat.le_refl _)).more hV.size
    have HBS : Hid (∀ V, Below w.heap.size w V → Bytes V V.heap.size A2 bs) := fun V hV => (hb2.below hV (Nat.le_refl _)).more hV.size
    have HQN := Lib.hid (qnew_any A l c zs k w.heap.size w hl (by omega) hb (Nat.le_refl _) hr)
    have HL := Lib.hid hl
    have HL2 := Lib.hid hl2
    have HR := Lib.hid hr
    have hl320 : l ≤ 320 := by omega
    clear hr h320 hb hb2 hl hl2 hm hm2
    go_enter Try.func6, Try.ntmps6
    go_upto_region 6 with (first
      | (go_at_call 12; refine HRT.out.mono ?_; rintro e w1 ⟨rfl, rfl⟩)
      | (go_at_call 11; refine HQN.out.mono ?_; rintro e w3 ⟨tb, g, m, base, cnt, blk, D, rfl, hlt, _, hb3, _, _⟩; have HLT := Lib.hid hlt; have HB3 := Lib.hid hb3; clear hlt hb3))
    clear HRT HQN
    obtain ⟨hW1, hW2⟩ := wid_in k
    obtain ⟨W, hW⟩ : ∃ W, wid k = W := ⟨_, rfl⟩
    rw [hW] at HLT hW1 hW2
    clear hW
    go_wp2_with fail
    refine (ref8Values_any A l c zs w3.heap.size w3 HL.out (by omega) (HZS.out _ HB3.out) (Nat.le_refl _)).mono ?_
    rintro e w4 ⟨rfl, hib, hb4⟩
    have HIB := Lib.hid hib
    have HLT4 := Lib.hid (HLT.out.below hb4)
    have HB4 : Hid (Below w.heap.size w w4) := HB3.out.trans (hb4.mono HB3.out.size)
    obtain ⟨vb, hvb⟩ : ∃ vb, w3.heap.size = vb := ⟨_, rfl⟩
    rw [hvb] at HIB ⊢
    clear hib hb4 hvb HLT HB3
    go_wp2_with fail
    refine (refUnpack_any A2 l2 c2 bs w4 HL2.out (by omega) (HBS.out _ HB4.out)).mono ?_
    rintro e w5 ⟨A5, c5, rfl, ho5, hb5⟩
    have HO5 := Lib.hid ho5
    have HLT5 := Lib.hid (HLT4.out.below hb5)
    have HIB5 : Hid (IntBlock w5 vb (caV zs)) := by show _ = _; rw [hb5.block vb (ib_lt HIB.out)]; exact HIB.out
    have HB5 : Hid (Below w.heap.size w w5) := HB4.out.trans (hb5.mono HB4.out.size)
    clear ho5 hb5 HLT4 HB4 HIB
    go_wp2_with fail
    refine (rnew_any A2 l2 c2 w5.heap.size bs w5 HL2.out (by omega) (Nat.le_refl _) (HBS.out _ HB5.out)).mono ?_
    rintro e w6 ⟨rx, Sx, rfl, hrx, hbx, hsx⟩
    have HRX := Lib.hid hrx
    have HBX := Lib.hid hbx
    have HRX0 : Hid (w5.heap.size ≤ rx) := by
      have hx : Sx rx := by obtain ⟨_, _, _, _, rfl, _⟩ := hrx; exact .inl rfl
      exact hsx rx hx
    clear hrx hbx hsx
    have HQT : Hid (∀ V p, Below w5.heap.size w5 V → RdS V rx w5.heap.size Sx bs p → Calls Try.prog 22 #[.pointer (some ⟨tb, 0, none⟩), .pointer (some ⟨rx, 0, none⟩)] V
        fun e w' => ∃ (on : Nat) (s er : Int), e = .returned (.tuple #[.int .i64 s, .int .i64 er]) ∧ (∀ mx : Nat, isMax zs (mx : Int) → TakeR zs mx ((unpack bs).drop p) s er on) ∧ RdS w' rx w5.heap.size Sx bs (p + on) ∧ Below w5.heap.size w5 w') := fun V p hV h2 => by
      refine (qtake_any tb g m W cnt base rx w5.heap.size blk D zs Sx bs p V HR.out (HLT5.out.below hV) hW1 hW2 h2 (by have := HL2.out; omega)).mono ?_
      rintro e w' ⟨on, s, er, rfl, h3, h4, h5⟩
      exact ⟨on, s, er, rfl, h3, h4, h5.below hV hV.size (fun k hk => by cases hk; exact HRX0.out)⟩
    have HRF : Hid (∀ V p, Below w5.heap.size w5 V → p ≤ 8 * l2 → Calls Try.prog 21 #[.slice A l c, .slice (some ⟨vb, 0, none⟩) l l, .slice A5 (8 * l2) c5, .int .i64 (p : Int)] V
        fun e w' => ∃ (on : Nat) (s er : Int), e = .returned (.tuple #[.int .i64 s, .int .i64 (on : Int), .int .i64 er]) ∧ (∀ mx : Nat, isMax zs (mx : Int) → TakeR zs mx ((unpack bs).drop p) s er on) ∧ Below V.heap.size V w') := fun V p hV hp =>
      refTake8_any A (some ⟨vb, 0, none⟩) A5 l c l (8 * l2) c5 zs (unpack bs) p V HR.out HL.out (HZS.out V (HB5.out.trans (hV.mono HB5.out.size)))
        ((ib_cells (show IntBlock V vb (caV zs) by show _ = _; rw [hV.block vb (ib_lt HIB5.out)]; exact HIB5.out) (by have := ib_lt HIB5.out; have := hV.size; omega)))
        (by rw [unpack_length, HL2.out]) (by omega) (own_cap HO5.out) (((Cells.of_own HO5.out).below hV (Nat.le_refl _)).more hV.size) hp
    have HPL : Hid (∀ V p, RdS V rx w5.heap.size Sx bs p → p ≤ 8 * l2) := fun V p h => by
      obtain ⟨_, _, _, _, _, hp, _⟩ := h
      rw [HL2.out] at hp
      exact hp
    clear HLT5 HIB5 HO5 HBS HZS HRX0
    obtain ⟨N, hN⟩ : ∃ N, 8 * l2 = N := ⟨_, rfl⟩
    rw [hN] at HRF HPL ⊢
    have hN2 : N ≤ 1600 := by omega
    clear hN
    go_upto_region 11 with fail
    go_loopg [12, 13] (N + 1) (fun gk sa si wr => ∃ j p : Nat, j + gk = N + 1 ∧ si = .int .i64 (j : Int) ∧ sa = .int .i64 (p : Int) ∧ Below w5.heap.size w5 wr ∧ RdS wr rx w5.heap.size Sx bs p)
    case atStart => exact ⟨0, 0, by omega, rfl, rfl, HBX.out, HRX.out⟩
    case round =>
      obtain ⟨j, p, hj, rfl, rfl, hb7, hr7⟩ := hrel
      have HB7 := Lib.hid hb7
      have HR7 := Lib.hid hr7
      have hpN := HPL.out _ _ hr7
      clear hb7 hr7
      by_cases hjl : j ≤ N
      · go_upto_region 14 with (first | (go_at_call 21; refine (HRF.out _ p HB7.out hpN).mono ?_; rintro e w8 ⟨on, s, er, rfl, ht8, hb8⟩; have HT8 := Lib.hid ht8; have HR8 : Hid (RdS w8 rx w5.heap.size Sx bs p) := HR7.out.keep (Mod.of_below hb8) (fun _ _ h => h); have HB8 : Hid (Below w5.heap.size w5 w8) := HB7.out.trans (hb8.mono HB7.out.size); clear ht8 hb8))
        go_wp2_with fail
        refine (HQT.out w8 p HB8.out HR8.out).mono ?_
        rintro e w9 ⟨on', s', er', rfl, ht9, hr9, hb9⟩
        obtain ⟨mx, hmx⟩ := nat_max HR.out
        have hon := takeR_on (ht9 mx hmx)
        obtain ⟨rfl, rfl, rfl⟩ := takeR_fun hmx (HT8.out mx hmx) (ht9 mx hmx)
        have HR9 := Lib.hid hr9
        have HB9 := Lib.hid hb9
        have hpo := HPL.out _ _ hr9
        have hss : (s != s) = false := by simp
        have hee : (er != er) = false := by simp
        have hpp : (((p + on : Nat) : Int) != (p : Int) + (on : Int)) = false := by simp
        have hpp2 : ((p : Int) + (on : Int) != (p : Int) + (on : Int)) = false := by simp
        clear ht9 hr9 hb9 HT8 HR8 HB8 hmx hon
        by_cases he : er = 0
        · subst he
          go_wp2_with fail
          refine (rat_any rx _ Sx bs (p + on) w9 HR9.out).mono ?_
          rintro e w10 ⟨rfl, rfl⟩
          go_wp2
          go_roundg (gk - 1)
          case measure => omega
          case rel => exact ⟨j + 1, p + on, by omega, by go_num, by go_num, HB9.out, HR9.out⟩
        · have he1 : (er != 0) = true := by simp [he]
          go_wp2_with fail
          refine (rat_any rx _ Sx bs (p + on) w9 HR9.out).mono ?_
          rintro e w10 ⟨rfl, rfl⟩
          go_wp2_with (go_at_call 10; refine (HLV.out _).mono ?_; rintro e w11 ⟨rfl, hb11⟩; have HB11 := Lib.hid hb11; clear hb11)
          go_ret
          have h7 := HB5.out.trans (HB9.out.mono HB5.out.size)
          exact ⟨rfl, h7.trans (HB11.out.mono h7.size)⟩
      · go_wp2_with (go_at_call 10; refine (HLV.out _).mono ?_; rintro e w11 ⟨rfl, hb11⟩; have HB11 := Lib.hid hb11; clear hb11)
        go_ret
        have h7 := HB5.out.trans (HB7.out.mono HB5.out.size)
        exact ⟨rfl, h7.trans (HB11.out.mono h7.size)⟩
end Go.Proofs.Ytnobeipabfdkjaa
