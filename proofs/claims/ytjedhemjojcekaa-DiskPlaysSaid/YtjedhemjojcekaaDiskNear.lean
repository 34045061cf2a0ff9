/- Layer 4: the calls that came in, and whether they are near. -/
import Derived.Test.YtjedhemjojcekaaDiskDo
import Derived.Test.YtjedhemjojcekaaOpens
import Derived.Test.YtjedhemjojcekaaLists
import Derived.OpenShut
namespace Go.Proofs.Ytjedhemjojcekaa
open Go.RowKit
attribute [local go_sem ↓] Go.wp_at_zero Go.wp_at_succ

/-- A call. -/
structure DOp where
  kind : Int
  at_ : Int
  B : Option Addr
  bl : Nat
  bc : Nat
  bs : List UInt8
  K : Option Addr
  kl : Nat
  kc : Nat
  ks : List Bool
  fill : Nat
def DOp.code (o : DOp) : List Value := [.int .i64 o.kind, .int .i64 o.at_, .slice o.B o.bl o.bc, .slice o.K o.kl o.kc, .int .u8 (o.fill : Int)]
/-- What is known of a call that came in with a world. -/
structure DOp.Good (w : World) (o : DOp) : Prop where
  a0 : -9223372036854775808 ≤ o.at_
  a1 : o.at_ ≤ 9223372036854775807
  bl : o.bs.length = o.bl
  bm : o.bl ≤ 9223372036854775807
  bc : o.bl ≤ o.bc
  bb : Cells w w.heap.size o.B (byteCells o.bs)
  kl : o.ks.length = o.kl
  km : o.kl ≤ 9223372036854775807
  kb : Cells w w.heap.size o.K (boolCells o.ks)
  f : o.fill < 256

theorem dop_of_lies {w : World} {x : List Value} (h : Lies w (.cons (.int .i64) (.cons (.int .i64) (.cons (.slice (.int .u8)) (.cons (.slice .bool) (.cons (.int .u8) .nil))))) x) : ∃ o : DOp, x = o.code ∧ DOp.Good w o := by
  obtain ⟨a, r1, e1, _, _, ⟨k, rfl, _⟩, h1⟩ := h
  obtain ⟨b, r2, rfl, _, _, ⟨p, rfl, hp⟩, h2⟩ := h1
  obtain ⟨c, r3, rfl, _, _, hb, h3⟩ := h2
  obtain ⟨d, r4, rfl, _, _, hk, h4⟩ := h3
  obtain ⟨e, r5, rfl, _, _, ⟨f, rfl, hf⟩, h5⟩ := h4
  have h5' : r5 = [] := h5
  subst h5'
  obtain ⟨bP, bl, bc, X, rfl, hm, hc, _, _⟩ := id hb
  obtain ⟨kP, kl, kc, Y, rfl, hm2, hc2, _, _⟩ := id hk
  obtain ⟨bs, hbl, hbm, hbs⟩ := bytes_of_lies hb
  obtain ⟨ks, hkl, hkm, hks⟩ := bools_of_lies hk
  have hpb := bounds_i64 hp
  have hfb := bounds_u8 hf
  have hmx : maxLen ≤ 9223372036854775807 := by unfold maxLen; omega
  obtain ⟨F, rfl⟩ := Int.eq_ofNat_of_zero_le hfb.1
  refine ⟨⟨k, p, bP, bl, bc, bs, kP, kl, kc, ks, F⟩, ?_, ⟨hpb.1, hpb.2, hbl, by omega, hc, hbs, hkl, by omega, hks, by show F < 256; omega⟩⟩
  rw [e1]
  rfl
theorem dops_of_lies {w : World} {a : Option Addr} {len cap : Nat} (h : Lies w (.slice (.cons (.int .i64) (.cons (.int .i64) (.cons (.slice (.int .u8)) (.cons (.slice .bool) (.cons (.int .u8) .nil)))))) [.slice a len cap]) :
    ∃ rs : List DOp, rs.length = len ∧ len ≤ 9223372036854775807 ∧ (∀ r ∈ rs, DOp.Good w r) ∧ (∀ r ∈ rs, (r.code).length = 5) ∧ Cells w w.heap.size a (rs.map DOp.code).flatten :=
  rows_as DOp.code (DOp.Good w) h (fun x _ hx => by
    obtain ⟨o, e, g⟩ := dop_of_lies hx
    exact ⟨o, e, g⟩)

theorem near_snoc {rs : List DOp} {i : Nat} {x : DOp} (h : ∀ r ∈ rs.take i, r.bl ≤ 3000) (hx : rs[i]? = some x) (hb : x.bl ≤ 3000) : ∀ r ∈ rs.take (i + 1), r.bl ≤ 3000 := by
  intro r hr
  rw [take_snoc' hx] at hr
  rcases List.mem_append.1 hr with h1 | h1
  · exact h r h1
  · rw [List.mem_singleton.1 h1]
    exact hb
set_option maxRecDepth 100000 in
theorem near_any (A : Option Addr) (l c : Nat) (rs : List DOp) (W0 w : World) (B : Nat) (hl : rs.length = l) (hlm : l ≤ 9223372036854775807) (hg : ∀ r ∈ rs, DOp.Good W0 r) (hs : ∀ r ∈ rs, (r.code).length = 5) (hc : Cells w B A (rs.map DOp.code).flatten) :
    Calls Try.prog 4 #[.slice A l c] w fun e w' => ∃ b, e = .returned (.bool b) ∧ w = w' ∧ (b = true → l ≤ 40 ∧ ∀ r ∈ rs, r.bl ≤ 3000) := by
  by_cases h40 : (40 : Int) < (l : Int)
  · go_enter Try.func4, Try.ntmps4
    go_wp2
    go_ret
    exact ⟨false, rfl, rfl, fun h => by cases h⟩
  have HG := Lib.hid hg
  have HS := Lib.hid hs
  have HC : Hid (Cells w B A (rs.map DOp.code).flatten) := hc
  have HL := Lib.hid hl
  clear hg hs hc hl
  go_enter Try.func4, Try.ntmps4
  go_wp2
  go_loopg [3] l (fun gk v wr => ∃ i : Nat, i + gk = l ∧ v = .int .i64 (i : Int) ∧ w = wr ∧ ∀ r ∈ rs.take i, r.bl ≤ 3000)
  case atStart => exact ⟨0, by omega, rfl, rfl, by simp⟩
  case round =>
    obtain ⟨i, hi, rfl, rfl, hall⟩ := hrel
    have HA := Lib.hid hall
    clear hall
    by_cases hil : i < l
    · obtain ⟨x, hxi⟩ := get_lt (bs := rs) (k := i) (by rw [HL.out]; exact hil)
      have hgx := HG.out x (List.mem_of_getElem? hxi)
      have hpos : 0 < ((rs.map DOp.code).flatten).length := (List.getElem?_eq_some_iff.1 (code_at (s := 5) (j := 0) HS.out hxi rfl)).1 |> fun h => by omega
      obtain ⟨b', o, rfl, hbB, hcell⟩ := HC.out hpos
      have hc1 := hcell _ _ (code_at (s := 5) (j := 1) HS.out hxi rfl)
      have hc2 := hcell _ _ (code_at (s := 5) (j := 2) HS.out hxi rfl)
      have hbm := hgx.bm
      have ha0 := hgx.a0
      have ha1 := hgx.a1
      have HX := Lib.hid hxi
      clear hcell hxi hgx hbB
      rw [← Nat.add_assoc] at hc1 hc2
      obtain ⟨bl, hbl⟩ : ∃ bl, x.bl = bl := ⟨_, rfl⟩
      obtain ⟨p, hp⟩ : ∃ p, x.at_ = p := ⟨_, rfl⟩
      rw [hbl] at hc2 hbm
      rw [hp] at hc1 ha0 ha1
      have HBL := Lib.hid hbl
      clear hbl hp
      generalize x.B = xB at *
      generalize x.bc = xc at *
      by_cases h3 : 3000 < bl
      · have g3 : decide ((3000 : Int) < (bl : Int)) = true := by simp; omega
        go_wp2
        go_ret
        exact ⟨false, rfl, rfl, fun h => by cases h⟩
      · have g3 : decide ((3000 : Int) < (bl : Int)) = false := by simp; omega
        by_cases h4 : 20000 < p ∧ p ≤ 2097152
        · have g4 : decide ((20000 : Int) < p) = true := by simp; omega
          have g5 : decide (p ≤ 2097152) = true := by simp; omega
          clear h4
          go_wp2
          go_ret
          exact ⟨false, rfl, rfl, fun h => by cases h⟩
        · by_cases h5 : 20000 < p
          · have g4 : decide ((20000 : Int) < p) = true := by simp; omega
            have g5 : decide (p ≤ 2097152) = false := by simp; omega
            clear h4 h5
            go_wp2
            go_roundg (l - 1 - i)
            case measure => omega
            case rel => exact ⟨i + 1, by omega, rfl, rfl, near_snoc HA.out HX.out (by rw [HBL.out]; omega)⟩
          · have g4 : decide ((20000 : Int) < p) = false := by simp; omega
            clear h4 h5
            go_wp2
            go_roundg (l - 1 - i)
            case measure => omega
            case rel => exact ⟨i + 1, by omega, rfl, rfl, near_snoc HA.out HX.out (by rw [HBL.out]; omega)⟩
    · obtain rfl : i = l := by omega
      go_wp2
      go_ret
      refine ⟨true, rfl, rfl, fun _ => ⟨by omega, ?_⟩⟩
      have := HA.out
      rwa [List.take_of_length_le (by rw [HL.out]; exact Nat.le_refl _)] at this
end Go.Proofs.Ytjedhemjojcekaa
