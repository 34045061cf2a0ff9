/- Layer 33: the reference's line. -/
import Derived.Test.YtkgkefifcpneiaaDoorReDg
import Derived.Test.YtkgkefifcpneiaaDoorReLn
import Derived.Test.YtkgkefifcpneiaaDoorRef15
namespace Go.Proofs.YtkgkefifcpneiaaDoor
open Go.RowKit

def rl1 (p : Pr) : ByteArray := if rightB p.name.data.toList then wordS p.kind ++ ⟨#[32]⟩ ++ p.name else wordS p.kind
def rl2 (p : Pr) : ByteArray := rl1 p ++ ⟨#[58, 32]⟩ ++ codeS p.e
def rl3 (p : Pr) : ByteArray := match cntN p with
  | none => rl2 p
  | some (n, x) => rl2 p ++ ⟨#[32]⟩ ++ itoaS n ++ ⟨#[x]⟩
def rl4 (p : Pr) : ByteArray := if p.rf then rl3 p ++ ⟨#[32, 114, 101, 102, 117, 115, 101, 100]⟩ else rl3 p
def rl5 (p : Pr) : ByteArray := if p.po then rl4 p ++ ⟨#[32, 112, 111, 105, 115, 111, 110, 101, 100]⟩ else rl4 p
/-- Within the reference's Line. -/
structure RlW (w : World) (p : Pr) (W : World) : Prop where
  op : W.heap[w.heap.size]? = some (.cells #[.int .i64 p.kind, .string p.name, p.o2, p.o3, p.o4, p.o5, p.o6] 36 (0, 0))
  an : W.heap[w.heap.size + 1]? = some (.cells #[.int .i64 p.e, .slice p.ad p.dl p.dc, p.a2, p.a3, p.a4, .bool p.rf, .bool p.po] 46 (0, 0))
  low : Below w.heap.size w W
  two : w.heap.size + 2 ≤ W.heap.size
theorem RlW.below {w W W1 : World} {p : Pr} (h : RlW w p W) (hb : Below W.heap.size W W1) : RlW w p W1 :=
  have ht := h.two
  ⟨(hb.block _ (by omega)).trans h.op, (hb.block _ (by omega)).trans h.an, h.low.trans (hb.mono h.low.size), Nat.le_trans h.two hb.size⟩
theorem rl_size {p : Pr} (hn : p.name.size ≤ 300) : (rl1 p).size ≤ 311 ∧ (rl2 p).size ≤ 323 := by
  have hw := word_size p.kind
  have hc := code_size p.e
  have h1 : (rl1 p).size ≤ 311 := by
    unfold rl1
    split
    · rw [ByteArray.size_append, ByteArray.size_append]; show _ + 1 + _ ≤ _; omega
    · omega
  refine ⟨h1, ?_⟩
  unfold rl2
  rw [ByteArray.size_append, ByteArray.size_append]
  show _ + 2 + _ ≤ _
  omega
set_option maxRecDepth 100000 in
set_option maxHeartbeats 4000000 in
theorem refLine33_any (p : Pr) (w : World) (hf : p.full) (hn : p.name.size ≤ 300) :
    Calls Tryd.prog 17 #[.agg #[.int .i64 p.kind, .string p.name, p.o2, p.o3, p.o4, p.o5, p.o6], .agg #[.int .i64 p.e, .slice p.ad p.dl p.dc, p.a2, p.a3, p.a4, .bool p.rf, .bool p.po]] w fun e w' => e = .returned (.string (rl5 p)) ∧ Below w.heap.size w w' := by
  have HW2 : Hid (RlW w p ((w.alloc (.cells #[.int .i64 p.kind, .string p.name, p.o2, p.o3, p.o4, p.o5, p.o6] 36)).alloc (.cells #[.int .i64 p.e, .slice p.ad p.dl p.dc, p.a2, p.a3, p.a4, .bool p.rf, .bool p.po] 46))) :=
    ⟨((Mod.refl noB (w.alloc _)).alloc _).keep (heap_alloc_new w _) (fun h => h), by have := heap_alloc_new (w.alloc (.cells #[.int .i64 p.kind, .string p.name, p.o2, p.o3, p.o4, p.o5, p.o6] 36)) (.cells #[.int .i64 p.e, .slice p.ad p.dl p.dc, p.a2, p.a3, p.a4, .bool p.rf, .bool p.po] 46); rwa [World.size_alloc] at this, ((Below.refl _ w).alloc (Nat.le_refl _) _).alloc (by simp) _, by simp⟩
  have HF := Lib.hid hf
  have HN := Lib.hid hn
  have HZ := Lib.hid (rl_size hn)
  have HWS := Lib.hid (word_size p.kind)
  have HWD := Lib.hid (fun W => refWord33_any p.kind W)
  have HCD := Lib.hid (fun W => refCode33_any p.e W)
  have HRI := Lib.hid (fun W => refRight_any p.name W (by unfold maxLen; omega))
  have HR1 : Hid (rl1 p = if rightB p.name.data.toList then wordS p.kind ++ ⟨#[32]⟩ ++ p.name else wordS p.kind) := rfl
  have HR2 : Hid (rl2 p = rl1 p ++ ⟨#[58, 32]⟩ ++ codeS p.e) := rfl
  clear hf
  generalize wordS p.kind = ws at *
  generalize hcs : codeS p.e = cs at *
  have hcz : cs.size ≤ 10 := by rw [← hcs]; exact code_size p.e
  clear hcs
  go_enter Tryd.func17, Tryd.ntmps17
  go_upto_region 1 with fail
  generalize ((w.alloc (.cells #[.int .i64 p.kind, .string p.name, p.o2, p.o3, p.o4, p.o5, p.o6] 36)).alloc (.cells #[.int .i64 p.e, .slice p.ad p.dl p.dc, p.a2, p.a3, p.a4, .bool p.rf, .bool p.po] 46)) = W2 at *
  have c0 := cell_of_row _ _ 0 _ _ _ HW2.out.op
  have c1 := cell_of_row _ _ 1 _ _ _ HW2.out.op
  go_upto_if 11 with (first
    | (go_at_call 8; refine (HWD.out W2).mono ?_; rintro e W3 ⟨rfl, rfl⟩)
    | (go_at_call 28; refine (HRI.out W2).mono ?_; rintro e W4 ⟨rfl, hb4⟩; have HW4 := Lib.hid (HW2.out.below hb4); clear hb4 c0 c1))
  go_cut [5, 11] from 6 to 76 (fun s _ wx => s = .string (rl1 p) ∧ RlW w p wx)
  case first =>
    have c1 := cell_of_row _ _ 1 _ _ _ HW4.out.op
    by_cases hr : rightB p.name.data.toList = true
    · have hx : rl1 p = ws ++ ⟨#[32]⟩ ++ p.name := by rw [HR1.out, if_pos hr]
      have hz := HWS.out
      rw [hr]
      go_wp2_with fail
      go_meet
      case rel => exact ⟨by rw [hx], HW4.out⟩
    · have hr : rightB p.name.data.toList = false := by simpa using hr
      have hx : rl1 p = ws := by rw [HR1.out, if_neg (by rw [hr]; decide)]
      rw [hr]
      go_wp2_with fail
      go_meet
      case rel => exact ⟨by rw [hx], HW4.out⟩
  case rest =>
  obtain ⟨rfl, hw5⟩ := hcut
  have HW5 := Lib.hid hw5
  clear hw5 HW4 HW2
  have d0 := cell_of_row _ _ 0 _ _ _ HW5.out.an
  have hz1 := HZ.out.1
  go_upto_region 5 with (go_at_call 10; refine (HCD.out wc).mono ?_; rintro e W6 ⟨rfl, hb6⟩; have HW6 := Lib.hid (HW5.out.below hb6); clear hb6 d0)
  rw [← HR2.out]
  have hz2 := HZ.out.2
  have d0 := cell_of_row _ _ 0 _ _ _ HW6.out.an
  go_upto_if 25 with fail
  have HR3 : Hid (rl3 p = match cntN p with
    | none => rl2 p
    | some (n, x) => rl2 p ++ ⟨#[32]⟩ ++ itoaS n ++ ⟨#[x]⟩) := rfl
  generalize rl2 p = r2 at *
  generalize hr3g : rl3 p = r3 at HR3
  go_cut [0, 1, 5, 25] from 6 to 76 (fun _ _ s _ wx => s = .string r3 ∧ RlW w p wx)
  case first =>
    obtain ⟨hdl, sz, na, nl, nc, fa, fl, fc, h2, h3, h4, h5, h6, h7, h8⟩ := HF.out
    have x0 := cell_of_row _ _ 0 _ _ _ HW6.out.op
    have y1 := cell_of_row _ _ 1 _ _ _ HW6.out.an
    have y2 := cell_of_row _ _ 2 _ _ _ HW6.out.an
    have y3 := cell_of_row _ _ 3 _ _ _ HW6.out.an
    have y4 := cell_of_row _ _ 4 _ _ _ HW6.out.an
    replace y2 : W6.cell? ⟨w.heap.size + 1, 2, none⟩ = some (.int .i64 sz) := y2.trans (by rw [← h2]; rfl)
    replace y3 : W6.cell? ⟨w.heap.size + 1, 3, none⟩ = some (.slice na nl nc) := y3.trans (by rw [← h3]; rfl)
    replace y4 : W6.cell? ⟨w.heap.size + 1, 4, none⟩ = some (.slice fa fl fc) := y4.trans (by rw [← h4]; rfl)
    by_cases he : p.e = 0
    · have e25 : (p.e == 0) = true := by simp [he]
      by_cases hk8 : p.kind = 8
      · have e1 : (p.kind == 8) = true := by simp [hk8]
        have hx : r3 = r2 ++ ⟨#[32]⟩ ++ itoaS (p.dl : Int) ++ ⟨#[98]⟩ := by
          rw [HR3.out]
          unfold cntN
          simp [he, hk8]
        have hz := itoaS_size (n := (p.dl : Int)) (by omega) (by omega)
        have HD := Lib.hid (digits33_any (p.dl : Int) (by omega) (by omega) W6)
        clear he HR3
        generalize itoaS (p.dl : Int) = dg at *
        go_wp2_with (go_at_call 29; refine HD.out.mono ?_; rintro e W7 ⟨rfl, hb7⟩; have HW7 := Lib.hid (HW6.out.below hb7); clear hb7)
        go_meet
        case rel => exact ⟨by rw [hx], HW7.out⟩
      by_cases hk9 : p.kind = 9
      · have e1 : (p.kind == 9) = true := by simp [hk9]
        have e8 : (p.kind == 8) = false := by simp [hk9]
        have hx : r3 = r2 ++ ⟨#[32]⟩ ++ itoaS sz ++ ⟨#[98]⟩ := by
          rw [HR3.out]
          unfold cntN
          simp [he, hk9, h2, szOf]
        have hz := itoaS_size (n := sz) (by omega) (by omega)
        have HD := Lib.hid (digits33_any sz (by omega) (by omega) W6)
        clear he HR3
        generalize itoaS sz = dg at *
        go_wp2_with (go_at_call 29; refine HD.out.mono ?_; rintro e W7 ⟨rfl, hb7⟩; have HW7 := Lib.hid (HW6.out.below hb7); clear hb7)
        go_meet
        case rel => exact ⟨by rw [hx], HW7.out⟩
      by_cases hk10 : p.kind = 10
      · have e1 : (p.kind == 10) = true := by simp [hk10]
        have e8 : (p.kind == 8) = false := by simp [hk10]
        have e9 : (p.kind == 9) = false := by simp [hk10]
        have hx : r3 = r2 ++ ⟨#[32]⟩ ++ itoaS (nl : Int) ++ ⟨#[120]⟩ := by
          rw [HR3.out]
          unfold cntN
          simp [he, hk10, h3, lenOf]
        have hz := itoaS_size (n := (nl : Int)) (by omega) (by omega)
        have HD := Lib.hid (digits33_any (nl : Int) (by omega) (by omega) W6)
        clear he HR3
        generalize itoaS (nl : Int) = dg at *
        go_wp2_with (go_at_call 29; refine HD.out.mono ?_; rintro e W7 ⟨rfl, hb7⟩; have HW7 := Lib.hid (HW6.out.below hb7); clear hb7)
        go_meet
        case rel => exact ⟨by rw [hx], HW7.out⟩
      by_cases hk2 : p.kind = 2
      · have e1 : (p.kind == 2) = true := by simp [hk2]
        have e8 : (p.kind == 8) = false := by simp [hk2]
        have e9 : (p.kind == 9) = false := by simp [hk2]
        have e10 : (p.kind == 10) = false := by simp [hk2]
        have hx : r3 = r2 ++ ⟨#[32]⟩ ++ itoaS (fl : Int) ++ ⟨#[120]⟩ := by
          rw [HR3.out]
          unfold cntN
          simp [he, hk2, h4, lenOf]
        have hz := itoaS_size (n := (fl : Int)) (by omega) (by omega)
        have HD := Lib.hid (digits33_any (fl : Int) (by omega) (by omega) W6)
        clear he HR3
        generalize itoaS (fl : Int) = dg at *
        go_wp2_with (go_at_call 29; refine HD.out.mono ?_; rintro e W7 ⟨rfl, hb7⟩; have HW7 := Lib.hid (HW6.out.below hb7); clear hb7)
        go_meet
        case rel => exact ⟨by rw [hx], HW7.out⟩
      by_cases hk15 : p.kind = 15
      · have e1 : (p.kind == 15) = true := by simp [hk15]
        have e8 : (p.kind == 8) = false := by simp [hk15]
        have e9 : (p.kind == 9) = false := by simp [hk15]
        have e10 : (p.kind == 10) = false := by simp [hk15]
        have e2 : (p.kind == 2) = false := by simp [hk15]
        have hx : r3 = r2 ++ ⟨#[32]⟩ ++ itoaS (fl : Int) ++ ⟨#[120]⟩ := by
          rw [HR3.out]
          unfold cntN
          simp [he, hk15, h4, lenOf]
        have hz := itoaS_size (n := (fl : Int)) (by omega) (by omega)
        have HD := Lib.hid (digits33_any (fl : Int) (by omega) (by omega) W6)
        clear he HR3
        generalize itoaS (fl : Int) = dg at *
        go_wp2_with (go_at_call 29; refine HD.out.mono ?_; rintro e W7 ⟨rfl, hb7⟩; have HW7 := Lib.hid (HW6.out.below hb7); clear hb7)
        go_meet
        case rel => exact ⟨by rw [hx], HW7.out⟩
      have e8 : (p.kind == 8) = false := by simp [hk8]
      have e9 : (p.kind == 9) = false := by simp [hk9]
      have e10 : (p.kind == 10) = false := by simp [hk10]
      have e2 : (p.kind == 2) = false := by simp [hk2]
      have e15 : (p.kind == 15) = false := by simp [hk15]
      have hx : r3 = r2 := by
        rw [HR3.out]
        unfold cntN
        simp [he, hk8, hk9, hk10, hk2, hk15]
      go_wp2_with fail
      go_meet
      case rel => exact ⟨by rw [hx], HW6.out⟩
    · have e25 : (p.e == 0) = false := by simp [he]
      have hx : r3 = r2 := by
        rw [HR3.out]
        unfold cntN
        simp [he]
      go_wp2_with fail
      go_meet
      case rel => exact ⟨by rw [hx], HW6.out⟩
  case rest =>
  obtain ⟨rfl, hw7⟩ := hcut
  have HW7 := Lib.hid hw7
  clear hw7 HW6 HW5 d0 HR3
  have hz3 : r3.size ≤ 360 := by
    rw [← hr3g]
    have hc := cnt_size HF.out
    unfold cntS at hc
    unfold rl3
    have h2 := (rl_size HN.out).2
    cases hq : cntN p with
    | none => show (rl2 p).size ≤ _; omega
    | some q =>
      obtain ⟨n, x⟩ := q
      rw [hq] at hc
      have hc2 : (itoaS n ++ (⟨#[x]⟩ : ByteArray)).size ≤ 30 := hc
      rw [ByteArray.size_append] at hc2
      show (rl2 p ++ ⟨#[32]⟩ ++ itoaS n ++ ⟨#[x]⟩).size ≤ _
      rw [ByteArray.size_append, ByteArray.size_append, ByteArray.size_append]
      have h3 : (⟨#[32]⟩ : ByteArray).size = 1 := rfl
      omega
  have HR4 : Hid (rl4 p = if p.rf then r3 ++ ⟨#[32, 114, 101, 102, 117, 115, 101, 100]⟩ else r3) := by show _ = _; rw [← hr3g]; rfl
  have HR5 : Hid (rl5 p = if p.po then rl4 p ++ ⟨#[32, 112, 111, 105, 115, 111, 110, 101, 100]⟩ else rl4 p) := rfl
  clear hr3g
  have b5 := cell_of_row _ _ 5 _ _ _ HW7.out.an
  have b6 := cell_of_row _ _ 6 _ _ _ HW7.out.an
  have HBW := Lib.hid HW7.out.low
  have hs1 : (⟨#[32, 114, 101, 102, 117, 115, 101, 100]⟩ : ByteArray).size = 8 := rfl
  have hs2 : (⟨#[32, 112, 111, 105, 115, 111, 110, 101, 100]⟩ : ByteArray).size = 9 := rfl
  by_cases hr : p.rf = true
  · generalize p.rf = rf at *
    subst hr
    by_cases ho : p.po = true
    · generalize p.po = po at *
      subst ho
      go_wp2
      go_ret
      exact ⟨by rw [HR5.out, HR4.out]; rfl, HBW.out⟩
    · have ho : p.po = false := by simpa using ho
      generalize p.po = po at *
      subst ho
      go_wp2
      go_ret
      exact ⟨by rw [HR5.out, HR4.out]; rfl, HBW.out⟩
  · have hr : p.rf = false := by simpa using hr
    generalize p.rf = rf at *
    subst hr
    by_cases ho : p.po = true
    · generalize p.po = po at *
      subst ho
      go_wp2
      go_ret
      exact ⟨by rw [HR5.out, HR4.out]; rfl, HBW.out⟩
    · have ho : p.po = false := by simpa using ho
      generalize p.po = po at *
      subst ho
      go_wp2
      go_ret
      exact ⟨by rw [HR5.out, HR4.out]; rfl, HBW.out⟩
end Go.Proofs.YtkgkefifcpneiaaDoor
