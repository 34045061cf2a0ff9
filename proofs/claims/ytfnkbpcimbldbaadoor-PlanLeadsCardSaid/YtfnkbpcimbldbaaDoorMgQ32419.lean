/- Layer 25: are files a map; a name's place (the reference). -/
import Derived.Test.YtfnkbpcimbldbaaDoorMgQ32417
import Derived.Laws.Cover1
import Derived.Test.YtfnkbpcimbldbaaDoorMgQ324SCmpS
namespace Go.Proofs.YtfnkbpcimbldbaaDoor
open Go.RowKit

theorem ris_steps {fs : List Fi} (h : ∀ (j : Nat) (x y : Fi), fs[j]? = some x → fs[j + 1]? = some y → ltN x.nm y.nm = true) : Ris Fi.nm fs := by
  unfold Ris
  rw [List.pairwise_iff_getElem]
  intro i j hi hj hij
  obtain ⟨d, rfl⟩ : ∃ d, j = i + 1 + d := ⟨j - (i + 1), by omega⟩
  clear hij
  induction d with
  | zero => exact h i _ _ (List.getElem?_eq_getElem hi) (List.getElem?_eq_getElem hj)
  | succ d ih => exact ltN_trans (ih (by omega)) (h (i + 1 + d) _ _ (List.getElem?_eq_getElem (by omega)) (List.getElem?_eq_getElem hj))
/-- Are files a map? -/
def mapB (fs : List Fi) : Bool := (List.range (fs.length - 1)).all fun j => match fs[j]?, fs[j + 1]? with
  | some x, some y => ltN x.nm y.nm
  | _, _ => true
theorem mapB_yes {fs : List Fi} (h : ∀ (j : Nat) (x y : Fi), fs[j]? = some x → fs[j + 1]? = some y → ltN x.nm y.nm = true) : mapB fs = true := by
  unfold mapB
  rw [List.all_eq_true]
  intro j _
  cases hx : fs[j]? with
  | none => rfl
  | some x =>
    cases hy : fs[j + 1]? with
    | none => rfl
    | some y => exact h j x y hx hy
theorem mapB_no {fs : List Fi} {j : Nat} {x y : Fi} (hx : fs[j]? = some x) (hy : fs[j + 1]? = some y) (h : ltN x.nm y.nm = false) : mapB fs = false := by
  unfold mapB
  rw [← Bool.not_eq_true, List.all_eq_true]
  intro ha
  have h1 := (List.getElem?_eq_some_iff.1 hy).1
  have := ha j (List.mem_range.2 (by omega))
  rw [hx, hy] at this
  rw [show ltN x.nm y.nm = true from this] at h
  cases h
theorem mapB_ris {fs : List Fi} (h : mapB fs = true) : Ris Fi.nm fs := ris_steps (fun j x y hx hy => by
  cases e : ltN x.nm y.nm with
  | true => rfl
  | false => rw [mapB_no hx hy e] at h; cases h)
set_option maxHeartbeats 1000000 in
theorem refMap25_any (A : Option Addr) (l c : Nat) (fs : List Fi) (B : Nat) (w : World) (hl : fs.length = l) (hm : l ≤ 1000000) (hb : Files w B A fs) :
    Calls Tryd.prog 11 #[.slice A l c] w fun e w' => e = .returned (.bool (mapB fs)) ∧ ∃ n, w.drewN n = w' := by
  have HF := Lib.hid hb.row
  have HL := Lib.hid hl
  clear hb hl
  go_enter Tryd.func11, Tryd.ntmps11
  go_wp2
  go_loopg [3] l (fun gk i wr => ∃ (k n : Nat), k + gk = l ∧ i = .int .i64 ((k + 1 : Nat) : Int) ∧ wr = w.drewN n ∧ ∀ (j : Nat) (x y : Fi), j < k → fs[j]? = some x → fs[j + 1]? = some y → ltN x.nm y.nm = true)
  case atStart => exact ⟨0, 0, by omega, rfl, rfl, fun j x y hj => absurd hj (Nat.not_lt_zero _)⟩
  case round =>
    obtain ⟨k, n, hk, rfl, hwr, hall⟩ := hrel
    have HW := Lib.hid hwr
    have HA := Lib.hid hall
    clear hall
    by_cases h : k + 1 < l
    · obtain ⟨x, hx⟩ : ∃ x, fs[k]? = some x := ⟨_, List.getElem?_eq_getElem (by have := HL.out; omega)⟩
      obtain ⟨y, hy⟩ : ∃ y, fs[k + 1]? = some y := ⟨_, List.getElem?_eq_getElem (by have := HL.out; omega)⟩
      obtain ⟨b, o, rfl, _, hc⟩ := HF.out (by rw [fi_len]; have := HL.out; omega)
      have c0 : wr.cell? ⟨b, o + k * 2, none⟩ = some (.string x.nm) := by rw [hwr]; exact (fi_at hc hx).1
      have d0 : wr.cell? ⟨b, o + (k + 1) * 2, none⟩ = some (.string y.nm) := by rw [hwr]; exact (fi_at hc hy).1
      have hki : (k : Int) + 1 < (l : Int) := by omega
      have hkj : (k : Int) < (l : Int) := by omega
      have hw1 : IntKind.i64.wrap ((k : Int) + 1 + 1) = (k : Int) + 1 + 1 := IntWalk.i64_in _ (by omega)
      have hw2 : IntKind.i64.wrap (k : Int) = (k : Int) := IntWalk.i64_in _ (by omega)
      have hw3 : IntKind.i64.wrap ((k : Int) + 1 - 1) = (k : Int) := by rw [Int.add_sub_cancel]; exact hw2
      have HX := Lib.hid hx
      have HY := Lib.hid hy
      obtain ⟨q, hq⟩ : ∃ q, Op.bytesLess x.nm.toList y.nm.toList = q := ⟨_, rfl⟩
      have HQ := Lib.hid hq
      clear hc hx hy hwr
      cases q with
      | true =>
        go_wp2
        go_quiet (fail)
        go_wp2
        go_roundg (gk - 1)
        case measure => omega
        case rel =>
          refine ⟨k + 1, _, by omega, by go_num, by rw [HW.out]; exact World.drewN_drewN .., fun j x' y' hj hx' hy' => ?_⟩
          by_cases hjk : j = k
          · subst hjk
            rw [HX.out] at hx'
            rw [HY.out] at hy'
            injection hx' with hx'
            injection hy' with hy'
            subst hx' hy'
            exact HQ.out
          · exact HA.out j x' y' (by omega) hx' hy'
      | false =>
        go_wp2
        go_quiet (fail)
        go_wp2
        go_ret
        exact ⟨by rw [(mapB_no HX.out HY.out HQ.out)]; rfl, _, by rw [HW.out]; exact (World.drewN_drewN ..).symm⟩
    · have hki : ¬ (k : Int) + 1 < (l : Int) := by omega
      have HR : Hid (mapB fs = true) := mapB_yes (fun j x y hx hy => HA.out j x y (by have := (List.getElem?_eq_some_iff.1 hy).1; have := HL.out; omega) hx hy)
      clear hwr
      go_wp2
      go_ret
      exact ⟨by rw [HR.out]; rfl, n, HW.out.symm⟩
end Go.Proofs.YtfnkbpcimbldbaaDoor
/- Layer 25: where a name stands in a map. -/
namespace Go.Proofs.YtfnkbpcimbldbaaDoor
open Go.RowKit

end Go.Proofs.YtfnkbpcimbldbaaDoor
