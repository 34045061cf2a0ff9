/- The walk of BitsReads. -/
import Derived.Test.YtlbjamnbbkaooaaBitsRe
import Derived.Test.YtlbjamnbbkaooaaBitsCut
import Derived.Test.YtlbjamnbbkaooaaLists
namespace Go.Proofs.Ytlbjamnbbkaooaa
open Go.RowKit BitsP
attribute [local go_sem ↓] Go.wp_at_zero Go.wp_at_succ

/-- A call: its kind and its number. -/
structure BOp where
  kind : Int
  n : Int
def BOp.code (r : BOp) : List Value := [.int .i64 r.kind, .int .i64 r.n]
def BOp.good (r : BOp) : Prop := (-9223372036854775808 ≤ r.kind ∧ r.kind ≤ 9223372036854775807) ∧ -9223372036854775808 ≤ r.n ∧ r.n ≤ 9223372036854775807
theorem bops_of_lies {w : World} {a : Option Addr} {len cap : Nat} (h : Lies w (.slice (.cons (.int .i64) (.cons (.int .i64) .nil))) [.slice a len cap]) :
    ∃ rs : List BOp, rs.length = len ∧ len ≤ 9223372036854775807 ∧ (∀ r ∈ rs, r.good) ∧ (∀ r ∈ rs, (r.code).length = 2) ∧ Cells w w.heap.size a (rs.map BOp.code).flatten :=
  rows_as BOp.code BOp.good h (fun x _ hx => by
    obtain ⟨c1, c2, rfl, _, _, ⟨k, rfl, hk⟩, ⟨c3, c4, rfl, _, _, ⟨n, rfl, hn⟩, rfl⟩⟩ := hx
    exact ⟨⟨k, n⟩, rfl, bounds_i64 hk, bounds_i64 hn⟩)

set_option maxRecDepth 100000 in
set_option maxHeartbeats 1000000 in
theorem reads_big (A : Option Addr) (l c : Nat) (A1 : Option Addr) (l1 c1 : Nat) (w : World) (h : 500 < l ∨ 100 < l1) :
    Calls Try.prog 8 #[.slice A l c, .slice A1 l1 c1] w fun e w' => e = .returned (.bool true) ∧ Below w.heap.size w w' := by
  by_cases h1 : 500 < l
  · have hbi : (500 : Int) < (l : Int) := by omega
    clear h
    go_enter Try.func8, Try.ntmps8
    go_wp2_with (go_at_call 22; refine (lives3_any _).mono ?_; rintro e w4 ⟨rfl, hb4⟩; have HB4 := Lib.hid hb4; clear hb4)
    go_ret
    exact ⟨rfl, HB4.out⟩
  have hbi : ¬ (500 : Int) < (l : Int) := by omega
  have h2 : (100 : Int) < (l1 : Int) := by omega
  clear h
  go_enter Try.func8, Try.ntmps8
  go_wp2_with (go_at_call 22; refine (lives3_any _).mono ?_; rintro e w4 ⟨rfl, hb4⟩; have HB4 := Lib.hid hb4; clear hb4)
  go_ret
  exact ⟨rfl, HB4.out⟩

set_option maxRecDepth 100000 in
set_option maxHeartbeats 4000000 in
theorem reads_walk (A : Option Addr) (l c : Nat) (bs : List UInt8) (Y : Option Addr) (l1 cY : Nat) (rs : List BOp) (w : World) (hl : bs.length = l) (hm : l ≤ 500) (hb : Bytes w w.heap.size A bs) (hl1 : rs.length = l1) (hm1 : l1 ≤ 100)
    (hg : ∀ r ∈ rs, r.good) (hs : ∀ r ∈ rs, (r.code).length = 2) (hb1 : Cells w w.heap.size Y (rs.map BOp.code).flatten) :
    Calls Try.prog 8 #[.slice A l c, .slice Y l1 cY] w fun e w' => e = .returned (.bool true) ∧ Below w.heap.size w w' := by
  have HOP : Hid (∀ k, k < l1 → ∃ (kd n : Int) (b₁ o₁ : Nat), (-9223372036854775808 ≤ kd ∧ kd ≤ 9223372036854775807) ∧ (-9223372036854775808 ≤ n ∧ n ≤ 9223372036854775807) ∧ Y = some ⟨b₁, o₁, none⟩ ∧
      (∀ W, Below w.heap.size w W → W.cell? ⟨b₁, o₁ + k * 2, none⟩ = some (.int .i64 kd) ∧ W.cell? ⟨b₁, o₁ + k * 2 + 1, none⟩ = some (.int .i64 n))) := fun k hkl => by
    obtain ⟨x, hxi⟩ := get_lt (bs := rs) (k := k) (by rw [hl1]; exact hkl)
    obtain ⟨h0, h1⟩ := hg x (List.mem_of_getElem? hxi)
    have hpos : 0 < ((rs.map BOp.code).flatten).length := (List.getElem?_eq_some_iff.1 (code_at (s := 2) (j := 0) hs hxi rfl)).1 |> fun h => by omega
    obtain ⟨b₁, o₁, he, hbB, hcell⟩ := hb1 hpos
    exact ⟨x.kind, x.n, b₁, o₁, h0, h1, he, fun W hW => ⟨(hW.cell (p := ⟨b₁, o₁ + k * 2, none⟩) hbB).trans (hcell _ _ (code_at (s := 2) (j := 0) hs hxi rfl)), (hW.cell (p := ⟨b₁, o₁ + k * 2 + 1, none⟩) hbB).trans (hcell _ _ (code_at (s := 2) (j := 1) hs hxi rfl))⟩⟩
  clear hg hs hb1 hl1
  have HUN := Lib.hid (refUnpack_any A l c bs w hl (by omega) hb)
  have HL := Lib.hid hl
  have HBY : Hid (Bytes w w.heap.size A bs) := hb
  have HUL : Hid ((unpack bs).length = 8 * l) := by show _ = _; rw [unpack_length, hl]
  have hbi : ¬ (500 : Int) < (l : Int) := by omega
  have hbi2 : ¬ (100 : Int) < (l1 : Int) := by omega
  clear hl hb
  go_enter Try.func8, Try.ntmps8
  go_wp2_with fail
  refine HUN.out.mono ?_
  rintro e w1 ⟨A1, c1, rfl, hown, hbel⟩
  have HROW1 := Lib.hid hown
  have HBEL1 := Lib.hid hbel
  clear hown hbel HUN
  go_wp2_with fail
  refine (rnew_any A l c w.heap.size bs w1 HL.out (by omega) HBEL1.out.size (HBY.out.below HBEL1.out (Nat.le_refl _))).mono ?_
  rintro e w2 ⟨g, S, rfl, hrd, hbel, hs2⟩
  have HRD2 := Lib.hid hrd
  have HROW2 := Lib.hid (own_keep HROW1.out (Mod.of_below hbel) (fun _ _ h => h))
  have HBEL2 := Lib.hid (HBEL1.out.trans (hbel.mono HBEL1.out.size))
  have HG : Hid (w.heap.size ≤ g ∧ ∀ k, ownS (.slice A1 (8 * l) c1) k → ¬ oneB g k) := by
    obtain ⟨_, _, _, _, rfl, _⟩ := hrd
    have h1 := hs2 g (.inl rfl)
    have h2 := HBEL1.out.size
    refine ⟨by omega, fun k hk (he : k = g) => ?_⟩
    have := own_lt HROW1.out k hk
    omega
  clear hrd hbel hs2 HROW1 HBEL1
  generalize w1.heap.size = B1 at *
  generalize hl8 : 8 * l = l8 at *
  have HL8 := Lib.hid hl8
  have hl8b : l8 ≤ 4000 := by omega
  clear hl8
  go_wp2
  go_loopg [8, 9] l1 (fun gk at_ i wr => ∃ (k p : Nat), k + gk = l1 ∧ i = .int .i64 k ∧ at_ = .int .i64 p ∧ p ≤ l8 ∧ RdS wr g B1 S bs p ∧ OwnB wr w.heap.size 5 (.slice A1 l8 c1) l8 (bitBytes (unpack bs)) ∧ Below w.heap.size w wr)
  case atStart => exact ⟨0, 0, by omega, rfl, rfl, by omega, HRD2.out, HROW2.out, HBEL2.out⟩
  case round =>
    obtain ⟨k, p, hk, rfl, rfl, hp, hrd, hrow, hbel⟩ := hrel
    have HRD := Lib.hid hrd
    have HROW := Lib.hid hrow
    have HBEL := Lib.hid hbel
    clear hrd hrow hbel HRD2 HROW2 HBEL2
    by_cases hkl : k < l1
    · obtain ⟨kd, n, b₁, o₁, ⟨kd0, kd1⟩, ⟨n0, n1⟩, rfl, hcell⟩ := HOP.out k hkl
      have HCELL := Lib.hid hcell
      obtain ⟨hc0, hc1⟩ := HCELL.out _ HBEL.out
      have HWID := Lib.hid (fun W => width3_any n W n0 n1)
      have hq := cnt_le n
      have HQQ := Lib.hid (cnt_nat hq)
      have HTAKE := Lib.hid (fun W h => rtake_any g B1 S bs p n W h (by rw [HL.out]; omega) n0 n1)
      have HPEEK := Lib.hid (fun W h => rpeek_any g B1 S bs p n W h (by rw [HL.out]; omega) n0 n1)
      have HSKIP := Lib.hid (fun W h => rskip_any g B1 S bs p n W h (by rw [HL.out]; omega) n0 n1)
      have HALIGN := Lib.hid (fun W h => ralign_any g B1 S bs p W h (by rw [HL.out]; omega))
      have HATL := Lib.hid (fun p' W h => rat_any g B1 S bs p' W h)
      have HLEFT := Lib.hid (fun p' W h => rleft_any g B1 S bs p' W h (by rw [HL.out]; omega))
      rw [HL.out, HL8.out] at HLEFT
      rw [HL.out] at HTAKE HSKIP
      generalize cnt n = q at *
      have HNUM := Lib.hid (fun W h => refNumber_any A1 l8 c1 W.heap.size (unpack bs) p (q : Int) W HUL.out (by omega) (by omega) (by omega) (by omega) h)
      rw [HQQ.out] at HNUM
      clear n0 n1 kd0 kd1 hcell
      have HE : Hid (((l8 - p : Nat) : Int) = (l8 : Int) - (p : Int)) := by show _ = _; omega
      have hlk8 : p + lack p ≤ l8 := by have := HL8.out; unfold lack; omega
      have HEk : Hid (((l8 - (p + lack p) : Nat) : Int) = (l8 : Int) - ((p : Int) + (lack p : Int))) := by show _ = _; omega
      have hlkv : ((8 : Int) - (p : Int) % 8) % 8 = (lack p : Int) := by unfold lack; omega
      generalize lack p = lk at *
      by_cases hfit : p + q ≤ l8
      · have hthere : decide ((q : Int) ≤ (l8 : Int) - (p : Int)) = true := by simp; omega
        have h1 := (fits_yes (l := l) (by rw [HL8.out]; exact hfit)).1
        have h2 := (fits_yes (l := l) (by rw [HL8.out]; exact hfit)).2
        have h3 := takes_yes (bs := bs) (p := p) (q := q) (by rw [HL.out, HL8.out]; exact hfit)
        rw [h1, h2, h3] at HTAKE
        rw [h1, h2] at HSKIP
        clear h1 h2 h3
        generalize num (((unpack bs).drop p).take q) = z at *
        have HEq : Hid (((l8 - (p + q) : Nat) : Int) = (l8 : Int) - ((p : Int) + (q : Int))) := by show _ = _; omega
        by_cases e0 : kd = 0
        · subst e0
          go_wp2_with fail
          refine (HWID.out _).mono ?_
          rintro e w' ⟨rfl, rfl⟩
          go_wp2_with fail
          refine (HNUM.out _ (Cells.of_own HROW.out)).mono ?_
          rintro e w' ⟨rfl, rfl⟩
          go_wp2_with fail
          refine (HTAKE.out _ HRD.out).mono ?_
          rintro e w3 ⟨rfl, hrd, hmod⟩
          have HRD3 := Lib.hid hrd
          have HROW3 := Lib.hid (own_keep HROW.out hmod HG.out.2)
          have HBEL3 := Lib.hid (hmod.below HBEL.out HBEL.out.size (fun j (hj : j = g) => by subst hj; exact HG.out.1))
          clear hrd hmod hc0 hc1 HROW HBEL HRD
          obtain ⟨hc0, hc1⟩ := HCELL.out _ HBEL3.out
          go_wp2_with fail
          refine (rtake_nil _ _).mono ?_
          rintro e w' ⟨rfl, rfl⟩
          go_wp2_with fail
          refine (HATL.out (p + q) w3 HRD3.out).mono ?_
          rintro e w' ⟨rfl, rfl⟩
          go_wp2_with fail
          refine (HLEFT.out (p + q) w3 HRD3.out).mono ?_
          rintro e w4 ⟨rfl, nd2, rfl⟩
          rw [HEq.out]
          go_wp2
          go_roundg (gk - 1)
          case measure => omega
          case rel => exact ⟨k + 1, p + q, by omega, by go_num, by go_num, by omega, HRD3.out, HROW3.out, ⟨HBEL3.out.os, HBEL3.out.tape, HBEL3.out.output, HBEL3.out.size, HBEL3.out.block⟩⟩
        have he0 : (kd == 0) = false := by simpa using e0
        by_cases e1 : kd = 1
        · subst e1
          go_wp2_with fail
          refine (HWID.out _).mono ?_
          rintro e w' ⟨rfl, rfl⟩
          go_wp2_with fail
          refine (HNUM.out _ (Cells.of_own HROW.out)).mono ?_
          rintro e w' ⟨rfl, rfl⟩
          go_wp2_with fail
          refine (HPEEK.out _ HRD.out).mono ?_
          rintro e w3 ⟨rfl, nd, rfl⟩
          have hrd := HRD.out.drewN nd
          have hmod := (Mod.refl (oneB g) wr).drewN nd
          generalize wr.drewN nd = w3 at *
          have HRD3 := Lib.hid hrd
          have HROW3 := Lib.hid (own_keep HROW.out hmod HG.out.2)
          have HBEL3 := Lib.hid (hmod.below HBEL.out HBEL.out.size (fun j (hj : j = g) => by subst hj; exact HG.out.1))
          clear hrd hmod hc0 hc1 HROW HBEL HRD
          obtain ⟨hc0, hc1⟩ := HCELL.out _ HBEL3.out
          go_wp2_with fail
          refine (rpeek_nil _ _).mono ?_
          rintro e w' ⟨rfl, rfl⟩
          go_wp2_with fail
          refine (HATL.out (p) w3 HRD3.out).mono ?_
          rintro e w' ⟨rfl, rfl⟩
          go_wp2_with fail
          refine (HLEFT.out (p) w3 HRD3.out).mono ?_
          rintro e w4 ⟨rfl, nd2, rfl⟩
          rw [HE.out]
          go_wp2
          go_roundg (gk - 1)
          case measure => omega
          case rel => exact ⟨k + 1, p, by omega, by go_num, by go_num, by omega, HRD3.out, HROW3.out, ⟨HBEL3.out.os, HBEL3.out.tape, HBEL3.out.output, HBEL3.out.size, HBEL3.out.block⟩⟩
        have he1 : (kd == 1) = false := by simpa using e1
        by_cases e2 : kd = 2
        · subst e2
          go_wp2_with fail
          refine (HWID.out _).mono ?_
          rintro e w' ⟨rfl, rfl⟩
          go_wp2_with fail
          refine (HNUM.out _ (Cells.of_own HROW.out)).mono ?_
          rintro e w' ⟨rfl, rfl⟩
          go_wp2_with fail
          refine (HSKIP.out _ HRD.out).mono ?_
          rintro e w3 ⟨rfl, hrd, hmod⟩
          have HRD3 := Lib.hid hrd
          have HROW3 := Lib.hid (own_keep HROW.out hmod HG.out.2)
          have HBEL3 := Lib.hid (hmod.below HBEL.out HBEL.out.size (fun j (hj : j = g) => by subst hj; exact HG.out.1))
          clear hrd hmod hc0 hc1 HROW HBEL HRD
          obtain ⟨hc0, hc1⟩ := HCELL.out _ HBEL3.out
          go_wp2_with fail
          refine (rskip_nil _ _).mono ?_
          rintro e w' ⟨rfl, rfl⟩
          go_wp2_with fail
          refine (HATL.out (p + q) w3 HRD3.out).mono ?_
          rintro e w' ⟨rfl, rfl⟩
          go_wp2_with fail
          refine (HLEFT.out (p + q) w3 HRD3.out).mono ?_
          rintro e w4 ⟨rfl, nd2, rfl⟩
          rw [HEq.out]
          go_wp2
          go_roundg (gk - 1)
          case measure => omega
          case rel => exact ⟨k + 1, p + q, by omega, by go_num, by go_num, by omega, HRD3.out, HROW3.out, ⟨HBEL3.out.os, HBEL3.out.tape, HBEL3.out.output, HBEL3.out.size, HBEL3.out.block⟩⟩
        have he2 : (kd == 2) = false := by simpa using e2
        go_wp2_with fail
        refine (HWID.out _).mono ?_
        rintro e w' ⟨rfl, rfl⟩
        go_wp2_with fail
        refine (HNUM.out _ (Cells.of_own HROW.out)).mono ?_
        rintro e w' ⟨rfl, rfl⟩
        go_wp2_with fail
        refine (HALIGN.out _ HRD.out).mono ?_
        rintro e w3 ⟨rfl, hrd, hmod⟩
        have HRD3 := Lib.hid hrd
        have HROW3 := Lib.hid (own_keep HROW.out hmod HG.out.2)
        have HBEL3 := Lib.hid (hmod.below HBEL.out HBEL.out.size (fun j (hj : j = g) => by subst hj; exact HG.out.1))
        clear hrd hmod hc0 hc1 HROW HBEL HRD
        obtain ⟨hc0, hc1⟩ := HCELL.out _ HBEL3.out
        go_wp2_with fail
        refine (ralign_nil _).mono ?_
        rintro e w' ⟨rfl, rfl⟩
        go_wp2_with fail
        refine (HATL.out (p + lk) w3 HRD3.out).mono ?_
        rintro e w' ⟨rfl, rfl⟩
        go_wp2_with fail
        refine (HLEFT.out (p + lk) w3 HRD3.out).mono ?_
        rintro e w4 ⟨rfl, nd2, rfl⟩
        rw [HEk.out]
        go_wp2
        go_roundg (gk - 1)
        case measure => omega
        case rel => exact ⟨k + 1, p + lk, by omega, by go_num, by go_num, by omega, HRD3.out, HROW3.out, ⟨HBEL3.out.os, HBEL3.out.tape, HBEL3.out.output, HBEL3.out.size, HBEL3.out.block⟩⟩
      · have hthere : decide ((q : Int) ≤ (l8 : Int) - (p : Int)) = false := by simp; omega
        have h1 := (fits_no (l := l) (by rw [HL8.out]; exact hfit)).1
        have h2 := (fits_no (l := l) (by rw [HL8.out]; exact hfit)).2
        have h3 := takes_no (bs := bs) (p := p) (q := q) (by rw [HL.out, HL8.out]; exact hfit)
        rw [h1, h2, h3] at HTAKE
        rw [h1, h2] at HSKIP
        clear h1 h2 h3
        generalize num (((unpack bs).drop p).take q) = z at *
        by_cases e0 : kd = 0
        · subst e0
          go_wp2_with fail
          refine (HWID.out _).mono ?_
          rintro e w' ⟨rfl, rfl⟩
          go_wp2_with fail
          refine (HNUM.out _ (Cells.of_own HROW.out)).mono ?_
          rintro e w' ⟨rfl, rfl⟩
          go_wp2_with fail
          refine (HTAKE.out _ HRD.out).mono ?_
          rintro e w3 ⟨rfl, hrd, hmod⟩
          have HRD3 := Lib.hid hrd
          have HROW3 := Lib.hid (own_keep HROW.out hmod HG.out.2)
          have HBEL3 := Lib.hid (hmod.below HBEL.out HBEL.out.size (fun j (hj : j = g) => by subst hj; exact HG.out.1))
          clear hrd hmod hc0 hc1 HROW HBEL HRD
          obtain ⟨hc0, hc1⟩ := HCELL.out _ HBEL3.out
          go_wp2_with fail
          refine (rtake_nil _ _).mono ?_
          rintro e w' ⟨rfl, rfl⟩
          go_wp2_with fail
          refine (HATL.out (p) w3 HRD3.out).mono ?_
          rintro e w' ⟨rfl, rfl⟩
          go_wp2_with fail
          refine (HLEFT.out (p) w3 HRD3.out).mono ?_
          rintro e w4 ⟨rfl, nd2, rfl⟩
          rw [HE.out]
          go_wp2
          go_roundg (gk - 1)
          case measure => omega
          case rel => exact ⟨k + 1, p, by omega, by go_num, by go_num, by omega, HRD3.out, HROW3.out, ⟨HBEL3.out.os, HBEL3.out.tape, HBEL3.out.output, HBEL3.out.size, HBEL3.out.block⟩⟩
        have he0 : (kd == 0) = false := by simpa using e0
        by_cases e1 : kd = 1
        · subst e1
          go_wp2_with fail
          refine (HWID.out _).mono ?_
          rintro e w' ⟨rfl, rfl⟩
          go_wp2_with fail
          refine (HNUM.out _ (Cells.of_own HROW.out)).mono ?_
          rintro e w' ⟨rfl, rfl⟩
          go_wp2_with fail
          refine (HPEEK.out _ HRD.out).mono ?_
          rintro e w3 ⟨rfl, nd, rfl⟩
          have hrd := HRD.out.drewN nd
          have hmod := (Mod.refl (oneB g) wr).drewN nd
          generalize wr.drewN nd = w3 at *
          have HRD3 := Lib.hid hrd
          have HROW3 := Lib.hid (own_keep HROW.out hmod HG.out.2)
          have HBEL3 := Lib.hid (hmod.below HBEL.out HBEL.out.size (fun j (hj : j = g) => by subst hj; exact HG.out.1))
          clear hrd hmod hc0 hc1 HROW HBEL HRD
          obtain ⟨hc0, hc1⟩ := HCELL.out _ HBEL3.out
          go_wp2_with fail
          refine (rpeek_nil _ _).mono ?_
          rintro e w' ⟨rfl, rfl⟩
          go_wp2_with fail
          refine (HATL.out (p) w3 HRD3.out).mono ?_
          rintro e w' ⟨rfl, rfl⟩
          go_wp2_with fail
          refine (HLEFT.out (p) w3 HRD3.out).mono ?_
          rintro e w4 ⟨rfl, nd2, rfl⟩
          rw [HE.out]
          go_wp2
          go_roundg (gk - 1)
          case measure => omega
          case rel => exact ⟨k + 1, p, by omega, by go_num, by go_num, by omega, HRD3.out, HROW3.out, ⟨HBEL3.out.os, HBEL3.out.tape, HBEL3.out.output, HBEL3.out.size, HBEL3.out.block⟩⟩
        have he1 : (kd == 1) = false := by simpa using e1
        by_cases e2 : kd = 2
        · subst e2
          go_wp2_with fail
          refine (HWID.out _).mono ?_
          rintro e w' ⟨rfl, rfl⟩
          go_wp2_with fail
          refine (HNUM.out _ (Cells.of_own HROW.out)).mono ?_
          rintro e w' ⟨rfl, rfl⟩
          go_wp2_with fail
          refine (HSKIP.out _ HRD.out).mono ?_
          rintro e w3 ⟨rfl, hrd, hmod⟩
          have HRD3 := Lib.hid hrd
          have HROW3 := Lib.hid (own_keep HROW.out hmod HG.out.2)
          have HBEL3 := Lib.hid (hmod.below HBEL.out HBEL.out.size (fun j (hj : j = g) => by subst hj; exact HG.out.1))
          clear hrd hmod hc0 hc1 HROW HBEL HRD
          obtain ⟨hc0, hc1⟩ := HCELL.out _ HBEL3.out
          go_wp2_with fail
          refine (rskip_nil _ _).mono ?_
          rintro e w' ⟨rfl, rfl⟩
          go_wp2_with fail
          refine (HATL.out (p) w3 HRD3.out).mono ?_
          rintro e w' ⟨rfl, rfl⟩
          go_wp2_with fail
          refine (HLEFT.out (p) w3 HRD3.out).mono ?_
          rintro e w4 ⟨rfl, nd2, rfl⟩
          rw [HE.out]
          go_wp2
          go_roundg (gk - 1)
          case measure => omega
          case rel => exact ⟨k + 1, p, by omega, by go_num, by go_num, by omega, HRD3.out, HROW3.out, ⟨HBEL3.out.os, HBEL3.out.tape, HBEL3.out.output, HBEL3.out.size, HBEL3.out.block⟩⟩
        have he2 : (kd == 2) = false := by simpa using e2
        go_wp2_with fail
        refine (HWID.out _).mono ?_
        rintro e w' ⟨rfl, rfl⟩
        go_wp2_with fail
        refine (HNUM.out _ (Cells.of_own HROW.out)).mono ?_
        rintro e w' ⟨rfl, rfl⟩
        go_wp2_with fail
        refine (HALIGN.out _ HRD.out).mono ?_
        rintro e w3 ⟨rfl, hrd, hmod⟩
        have HRD3 := Lib.hid hrd
        have HROW3 := Lib.hid (own_keep HROW.out hmod HG.out.2)
        have HBEL3 := Lib.hid (hmod.below HBEL.out HBEL.out.size (fun j (hj : j = g) => by subst hj; exact HG.out.1))
        clear hrd hmod hc0 hc1 HROW HBEL HRD
        obtain ⟨hc0, hc1⟩ := HCELL.out _ HBEL3.out
        go_wp2_with fail
        refine (ralign_nil _).mono ?_
        rintro e w' ⟨rfl, rfl⟩
        go_wp2_with fail
        refine (HATL.out (p + lk) w3 HRD3.out).mono ?_
        rintro e w' ⟨rfl, rfl⟩
        go_wp2_with fail
        refine (HLEFT.out (p + lk) w3 HRD3.out).mono ?_
        rintro e w4 ⟨rfl, nd2, rfl⟩
        rw [HEk.out]
        go_wp2
        go_roundg (gk - 1)
        case measure => omega
        case rel => exact ⟨k + 1, p + lk, by omega, by go_num, by go_num, by omega, HRD3.out, HROW3.out, ⟨HBEL3.out.os, HBEL3.out.tape, HBEL3.out.output, HBEL3.out.size, HBEL3.out.block⟩⟩
    · obtain rfl : k = l1 := by omega
      go_wp2_with (first
        | (go_at_call 38; refine (rat_nil _).mono ?_; rintro e w' ⟨rfl, rfl⟩)
        | (go_at_call 39; refine (rleft_nil _).mono ?_; rintro e w' ⟨rfl, rfl⟩)
        | (go_at_call 22; refine (lives3_any _).mono ?_; rintro e w4 ⟨rfl, hb4⟩; have HB4 := Lib.hid hb4; clear hb4))
      go_ret
      exact ⟨rfl, HBEL.out.trans (HB4.out.mono HBEL.out.size)⟩

theorem reads_all (A : Option Addr) (l c : Nat) (Y : Option Addr) (l1 cY : Nat) (w : World) (h0 : Lies w (.slice (.int .u8)) [.slice A l c]) (h1 : Lies w (.slice (.cons (.int .i64) (.cons (.int .i64) .nil))) [.slice Y l1 cY]) :
    Calls Try.prog 8 #[.slice A l c, .slice Y l1 cY] w fun e w' => e = .returned (.bool true) ∧ Below w.heap.size w w' := by
  by_cases h : 500 < l ∨ 100 < l1
  · exact reads_big A l c Y l1 cY w h
  · obtain ⟨bs, hl, _, hb⟩ := bytes_of_lies h0
    obtain ⟨rs, hl1, _, hg, hs, hc⟩ := bops_of_lies h1
    exact reads_walk A l c bs Y l1 cY rs w hl (by omega) hb hl1 (by omega) hg hs hc
end Go.Proofs.Ytlbjamnbbkaooaa
