/- Layer 34: QuickSame walked. -/
import Derived.Test.YtnobeipabfdkjaaQkNil
import Derived.Test.YtnobeipabfdkjaaCrTake
namespace Go.Proofs.Ytnobeipabfdkjaa
open Go.RowKit Go.Maps BitsP

theorem len_false {l n : Nat} (h : ¬ n < l) : decide ((n : Int) < (l : Int)) = false := by simp; omega
/-- Two readers of the same bytes at the same place, apart. -/
structure TwoR (w : World) (rx ry bx hy : Nat) (Sx Sy : Nat → Prop) (bs : List UInt8) (p : Nat) : Prop where
  x : RdS w rx bx Sx bs p
  y : RdS w ry hy Sy bs p
theorem wid_in (k : Int) : 1 ≤ wid k ∧ wid k ≤ 15 := by unfold wid; omega
set_option maxRecDepth 100000 in
set_option maxHeartbeats 400000 in
theorem qsame_any (A A2 : Option Addr) (l c l2 c2 : Nat) (zs : List Int) (bs : List UInt8) (k : Int) (w : World) (hl : zs.length = l) (hm : l ≤ 9223372036854775807) (hb : Cells w w.heap.size A (zs.map ic)) (hl2 : bs.length = l2) (hm2 : l2 ≤ 9223372036854775807) (hb2 : Bytes w w.heap.size A2 bs) :
    Calls Try.prog 7 #[.slice A l c, .int .i64 k, .slice A2 l2 c2] w fun e w' => e = .returned (.bool true) ∧ Below w.heap.size w w' := by
  have HLV := Lib.hid lives34_any
  by_cases hl330 : 330 < l
  · have hd : decide ((330 : Int) < (l : Int)) = true := by simp; omega
    clear hl hb hl2 hb2
    go_enter Try.func7, Try.ntmps7
    go_wp2_with (go_at_call 10; refine (HLV.out _).mono ?_; rintro e w4 ⟨rfl, hb4⟩; have HB4 := Lib.hid hb4; clear hb4)
    go_ret
    exact ⟨rfl, HB4.out⟩
  have hd : decide ((330 : Int) < (l : Int)) = false := by simp; omega
  by_cases hl200 : 200 < l2
  · have hd2 : decide ((200 : Int) < (l2 : Int)) = true := by simp; omega
    clear hl hb hl2 hb2
    go_enter Try.func7, Try.ntmps7
    go_wp2_with (go_at_call 10; refine (HLV.out _).mono ?_; rintro e w4 ⟨rfl, hb4⟩; have HB4 := Lib.hid hb4; clear hb4)
    go_ret
    exact ⟨rfl, HB4.out⟩
  have hd2 : decide ((200 : Int) < (l2 : Int)) = false := by simp; omega
  have HBY : Hid (∀ V, Below w.heap.size w V → Calls Try.prog 20 #[.slice A2 l2 c2] V fun e w' => ∃ g S, e = .returned (.pointer (some ⟨g, 0, none⟩)) ∧ RdS w' g V.heap.size S bs 0 ∧ Below V.heap.size V w' ∧ (∀ k, S k → V.heap.size ≤ k)) := fun V hV =>
    rnew_any A2 l2 c2 V.heap.size bs V hl2 (by omega) (Nat.le_refl _) ((hb2.below hV (Nat.le_refl _)).more hV.size)
  have HZS : Hid (∀ V, Below w.heap.size w V → Cells V V.heap.size A (zs.map ic)) := fun V hV => (hb.below hV (Nat.le_refl _)).more hV.size
  have HRN := Lib.hid qrow_nil
  have HTN := Lib.hid qtake_nil
  have HL := Lib.hid hl
  have HL2 := Lib.hid hl2
  clear hb hb2 hl hl2 hm hm2
  cases hr : caR zs with
  | false =>
    have HQN : Hid (∀ V, Below w.heap.size w V → Calls Try.prog 11 #[.slice A l c, .int .i64 k] V fun e w' => e = .returned (.tuple #[.pointer none, .int .i64 13]) ∧ V = w') := fun V hV => qnew_no A l c zs k _ V HL.out (by omega) (HZS.out V hV) hr
    have HCN : Hid (∀ V, Below w.heap.size w V → Calls Try.prog 24 #[.slice A l c] V fun e w' => e = .returned (.tuple #[.pointer none, .int .i64 13]) ∧ V = w') := fun V hV => new_no A l c zs _ V HL.out (by omega) (HZS.out V hV) hr
    clear hr
    go_enter Try.func7, Try.ntmps7
    go_wp2_with fail
    refine (HBY.out w (Below.refl _ _)).mono ?_
    rintro e w1 ⟨g1, S1, rfl, _, hb1, _⟩
    have HB1 := Lib.hid hb1
    clear hb1
    go_wp2_with (first
      | (go_at_call 22; refine (HTN.out _ _).mono ?_; rintro e w2 ⟨rfl, rfl⟩)
      | (go_at_call 15; refine (qwidth_nil _).mono ?_; rintro e w2 ⟨rfl, rfl⟩)
      | (go_at_call 18; refine (qsize_nil _).mono ?_; rintro e w2 ⟨rfl, rfl⟩)
      | (go_at_call 16; refine (HRN.out _ _).mono ?_; rintro e w2 ⟨rfl, hb2⟩; have HB2 : Hid (Below w.heap.size w w2) := HB1.out.trans (hb2.mono HB1.out.size); clear hb2)
      | (go_at_call 11; refine (HQN.out _ HB2.out).mono ?_; rintro e w3 ⟨rfl, rfl⟩)
      | (go_at_call 24; refine (HCN.out _ HB2.out).mono ?_; rintro e w3 ⟨rfl, rfl⟩)
      | (go_at_call 10; refine (HLV.out _).mono ?_; rintro e w4 ⟨rfl, hb4⟩; have HB4 := Lib.hid hb4; clear hb4))
    go_ret
    exact ⟨rfl, HB2.out.trans (HB4.out.mono HB2.out.size)⟩
  | true =>
    have h320 := (caR_len hr).1
    have HQN : Hid (∀ V, Below w.heap.size w V → _) := fun V hV => qnew_any A l c zs k V.heap.size V HL.out (by have := HL.out; omega) (HZS.out V hV) (Nat.le_refl _) hr
    have HCN : Hid (∀ V, Below w.heap.size w V → _) := fun V hV => new_any A l c zs V.heap.size V HL.out (by omega) (HZS.out V hV) (Nat.le_refl _) hr
    have HR := Lib.hid hr
    clear hr h320
    go_enter Try.func7, Try.ntmps7
    go_wp2_with fail
    refine (HBY.out w (Below.refl _ _)).mono ?_
    rintro e w1 ⟨g1, S1, rfl, _, hb1, _⟩
    have HB1 := Lib.hid hb1
    clear hb1
    go_upto_region 9 with (first
      | (go_at_call 22; refine (HTN.out _ _).mono ?_; rintro e w2 ⟨rfl, rfl⟩)
      | (go_at_call 15; refine (qwidth_nil _).mono ?_; rintro e w2 ⟨rfl, rfl⟩)
      | (go_at_call 18; refine (qsize_nil _).mono ?_; rintro e w2 ⟨rfl, rfl⟩)
      | (go_at_call 16; refine (HRN.out _ _).mono ?_; rintro e w2 ⟨rfl, hb2⟩; have HB2 : Hid (Below w.heap.size w w2) := HB1.out.trans (hb2.mono HB1.out.size); clear hb2)
      | (go_at_call 11; refine (HQN.out _ HB2.out).mono ?_; rintro e w3 ⟨tb, g, m, base, cnt, blk, D, rfl, hlt, _, hb3, _, _⟩; have HLT := Lib.hid hlt; have HB3a := Lib.hid hb3; have HB3 : Hid (Below w.heap.size w w3) := HB2.out.trans (hb3.mono HB2.out.size); clear hlt hb3)
      | (go_at_call 24; refine (HCN.out _ HB3.out).mono ?_; rintro e w4 ⟨cg, rfl, hlc, _, hb4⟩; have HLC := Lib.hid hlc; have HLT4 := Lib.hid (HLT.out.below hb4); have HB4 : Hid (Below w.heap.size w w4) := HB3.out.trans (hb4.mono HB3.out.size); clear hlc hb4))
    clear HQN HCN HB1 HB2 HB3 HRN HTN HLT HZS
    obtain ⟨hW1, hW2⟩ := wid_in k
    obtain ⟨W, hW⟩ : ∃ W, wid k = W := ⟨_, rfl⟩
    rw [hW] at HLT4 hW1 hW2
    clear hW
    go_upto_region 16 with (first
      | (go_at_call 22; refine (qtake_rnil tb _).mono ?_; rintro e w2 ⟨rfl, rfl⟩))
    go_wp2_with fail
    refine (HBY.out w4 HB4.out).mono ?_
    rintro e wx ⟨rx, Sx, rfl, hrx, hbx, hsx⟩
    have HRX := Lib.hid hrx
    have HBX := Lib.hid hbx
    have HSX := Lib.hid hsx
    clear hrx hbx hsx
    go_wp2_with fail
    refine (HBY.out wx (HB4.out.trans (HBX.out.mono HB4.out.size))).mono ?_
    rintro e wy ⟨ry, Sy, rfl, hry, hby, hsy⟩
    have HXY : Hid (TwoR wy rx ry w4.heap.size wx.heap.size Sx Sy bs 0) := ⟨HRX.out.keep (Mod.of_below hby) (fun _ _ h => h), hry⟩
    have HAP : Hid (¬ Sy rx ∧ ¬ Sx ry ∧ w4.heap.size ≤ rx ∧ w4.heap.size ≤ ry) := by
      have hx : Sx rx := by obtain ⟨_, _, _, _, rfl, _⟩ := HRX.out; exact .inl rfl
      have hy : Sy ry := by obtain ⟨_, _, _, _, rfl, _⟩ := hry; exact .inl rfl
      have h1 := HRX.out.lt rx hx
      have h2 := hsy ry hy
      have h3 := HSX.out rx hx
      have h4 := HBX.out.size
      exact ⟨fun h => by have := hsy rx h; omega, fun h => by have := HRX.out.lt ry h; omega, h3, by omega⟩
    have HBW : Hid (Below w4.heap.size w4 wy) := HBX.out.trans (hby.mono HBX.out.size)
    clear hry hby hsy HRX HBX HSX HBY
    have HQT : Hid (∀ V p, Below w4.heap.size w4 V → TwoR V rx ry w4.heap.size wx.heap.size Sx Sy bs p → Calls Try.prog 22 #[.pointer (some ⟨tb, 0, none⟩), .pointer (some ⟨rx, 0, none⟩)] V
        fun e w' => ∃ (on : Nat) (s er : Int), e = .returned (.tuple #[.int .i64 s, .int .i64 er]) ∧ (∀ mx : Nat, isMax zs (mx : Int) → TakeR zs mx ((unpack bs).drop p) s er on) ∧ RdS w' rx w4.heap.size Sx bs (p + on) ∧ RdS w' ry wx.heap.size Sy bs p ∧ Below w4.heap.size w4 w') := fun V p hV h2 => by
      refine (qtake_any tb g m W cnt base rx w4.heap.size blk D zs Sx bs p V HR.out (HLT4.out.below hV) hW1 hW2 h2.x (by have := HL2.out; omega)).mono ?_
      rintro e w' ⟨on, s, er, rfl, h3, h4, h5⟩
      exact ⟨on, s, er, rfl, h3, h4, h2.y.keep h5 (fun k hk e => HAP.out.1 (e ▸ hk)), h5.below hV hV.size (fun k hk => by cases hk; exact HAP.out.2.2.1)⟩
    have HCT : Hid (∀ V p q, Below w4.heap.size w4 V → RdS V rx w4.heap.size Sx bs q → RdS V ry wx.heap.size Sy bs p → Calls Try.prog 25 #[.pointer (some ⟨cg, 0, none⟩), .pointer (some ⟨ry, 0, none⟩)] V
        fun e w' => ∃ (mx on : Nat) (s er : Int), e = .returned (.tuple #[.int .i64 s, .int .i64 er]) ∧ isMax zs (mx : Int) ∧ TakeR zs mx ((unpack bs).drop p) s er on ∧ RdS w' ry wx.heap.size Sy bs (p + on) ∧ RdS w' rx w4.heap.size Sx bs q ∧ Below w4.heap.size w4 w') := fun V p q hV hx hy => by
      refine (take8_any cg ry wx.heap.size zs Sy bs p V HR.out (HLC.out.below hV) hy (by have := HL2.out; omega)).mono ?_
      rintro e w' ⟨mx, on, s, er, rfl, h0, h3, h4, h5⟩
      exact ⟨mx, on, s, er, rfl, h0, h3, h4, hx.keep h5 (fun k hk e => HAP.out.2.1 (e ▸ hk)), h5.below hV hV.size (fun k hk => by cases hk; exact HAP.out.2.2.2)⟩
    clear HLT4 HLC HAP
    go_upto_region 18 with fail
    go_loopg [18] (8 * l2 + 1) (fun gk i wr => ∃ j p : Nat, j + gk = 8 * l2 + 1 ∧ i = .int .i64 (j : Int) ∧ Below w4.heap.size w4 wr ∧ TwoR wr rx ry w4.heap.size wx.heap.size Sx Sy bs p)
    case atStart => exact ⟨0, 0, by omega, rfl, HBW.out, HXY.out⟩
    case round =>
      obtain ⟨j, p, hj, rfl, hb5, h25⟩ := hrel
      have HB5 := Lib.hid hb5
      have H25 := Lib.hid h25
      clear hb5 h25
      by_cases hjl : j ≤ 8 * l2
      · go_upto_region 21 with (first | (go_at_call 22; refine (HQT.out _ p HB5.out H25.out).mono ?_; rintro e w6 ⟨on, s, er, rfl, ht6, hx6, hy6, hb6⟩; have HT6 := Lib.hid ht6; have HX6 := Lib.hid hx6; have HY6 := Lib.hid hy6; have HB6 := Lib.hid hb6; clear ht6 hx6 hy6 hb6))
        go_wp2_with fail
        refine (HCT.out w6 p (p + on) HB6.out HX6.out HY6.out).mono ?_
        rintro e w7 ⟨mx, on', s', er', rfl, hmx, ht7, hy7, hx7, hb7⟩
        obtain ⟨rfl, rfl, rfl⟩ := takeR_fun hmx (HT6.out mx hmx) ht7
        have HXY7 : Hid (TwoR w7 rx ry w4.heap.size wx.heap.size Sx Sy bs (p + on)) := ⟨hx7, hy7⟩
        have HB7 := Lib.hid hb7
        have hss : (s != s) = false := by simp
        have hee : (er != er) = false := by simp
        have hpp : (((p + on : Nat) : Int) != ((p + on : Nat) : Int)) = false := by simp
        clear hmx ht7 hx7 hy7 hb7 HT6 HX6 HY6 HB6
        obtain ⟨q, hq⟩ : ∃ q, p + on = q := ⟨_, rfl⟩
        rw [hq] at HXY7 hpp
        clear hq
        by_cases he : er = 0
        · subst he
          go_wp2_with fail
          refine (rat_any rx _ Sx bs q w7 HXY7.out.x).mono ?_
          rintro e w8 ⟨rfl, rfl⟩
          go_wp2_with fail
          refine (rat_any ry _ Sy bs q w7 HXY7.out.y).mono ?_
          rintro e w8 ⟨rfl, rfl⟩
          go_wp2
          go_roundg (gk - 1)
          case measure => omega
          case rel => exact ⟨j + 1, q, by omega, by go_num, HB7.out, HXY7.out⟩
        · have he1 : (er != 0) = true := by simp [he]
          go_wp2_with fail
          refine (rat_any rx _ Sx bs q w7 HXY7.out.x).mono ?_
          rintro e w8 ⟨rfl, rfl⟩
          go_wp2_with fail
          refine (rat_any ry _ Sy bs q w7 HXY7.out.y).mono ?_
          rintro e w8 ⟨rfl, rfl⟩
          go_wp2_with (go_at_call 10; refine (HLV.out _).mono ?_; rintro e w9 ⟨rfl, hb9⟩; have HB9 := Lib.hid hb9; clear hb9)
          go_ret
          have h7 := HB4.out.trans (HB7.out.mono HB4.out.size)
          exact ⟨rfl, h7.trans (HB9.out.mono h7.size)⟩
      · go_wp2_with (go_at_call 10; refine (HLV.out _).mono ?_; rintro e w9 ⟨rfl, hb9⟩; have HB9 := Lib.hid hb9; clear hb9)
        go_ret
        have h7 := HB4.out.trans (HB5.out.mono HB4.out.size)
        exact ⟨rfl, h7.trans (HB9.out.mono h7.size)⟩
end Go.Proofs.Ytnobeipabfdkjaa
