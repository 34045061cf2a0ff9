/- Layer 19: members held against each other. -/
import Derived.Test.YtjoifgeljjgflaaDoorEnA
namespace Go.Proofs.YtjoifgeljjgflaaDoor
open Go.RowKit

/-- Are members alike? -/
def eqM (a b : LM) : Bool := a.nm.toList == b.nm.toList && a.at_ == b.at_ && a.fr == b.fr && a.ar == b.ar && a.sz == b.sz && a.su == b.su && a.me == b.me
theorem run_neqM (a b : LM) (w : World) : (binOp .neq 32 (.agg #[.string a.nm, .int .i64 a.at_, .int .i64 a.fr, .int .i64 a.ar, .int .i64 a.sz, .int .u32 a.su, .int .i64 a.me]) (.agg #[.string b.nm, .int .i64 b.at_, .int .i64 b.fr, .int .i64 b.ar, .int .i64 b.sz, .int .u32 b.su, .int .i64 b.me])).run Tryd.prog w = .ok (.bool (!(eqM a b))) w := by
  unfold eqM
  go_simp
  by_cases h1 : a.nm.toList = b.nm.toList
  · by_cases h2 : a.at_ = b.at_
    · by_cases h3 : a.fr = b.fr
      · by_cases h4 : a.ar = b.ar
        · by_cases h5 : a.sz = b.sz
          · by_cases h6 : a.su = b.su
            · by_cases h7 : a.me = b.me
              all_goals simp [h1, h2, h3, h4, h5, h6, h7]
            · simp [h1, h2, h3, h4, h5, h6]
          · simp [h1, h2, h3, h4, h5]
        · simp [h1, h2, h3, h4]
      · simp [h1, h2, h3]
    · simp [h1, h2]
  · simp [h1]
theorem run_eqM (a b : LM) (w : World) : (binOp .eql 32 (.agg #[.string a.nm, .int .i64 a.at_, .int .i64 a.fr, .int .i64 a.ar, .int .i64 a.sz, .int .u32 a.su, .int .i64 a.me]) (.agg #[.string b.nm, .int .i64 b.at_, .int .i64 b.fr, .int .i64 b.ar, .int .i64 b.sz, .int .u32 b.su, .int .i64 b.me])).run Tryd.prog w = .ok (.bool (eqM a b)) w := by
  unfold eqM
  go_simp
  by_cases h1 : a.nm.toList = b.nm.toList
  · by_cases h2 : a.at_ = b.at_
    · by_cases h3 : a.fr = b.fr
      · by_cases h4 : a.ar = b.ar
        · by_cases h5 : a.sz = b.sz
          · by_cases h6 : a.su = b.su
            · by_cases h7 : a.me = b.me
              all_goals simp [h1, h2, h3, h4, h5, h6, h7]
            · simp [h1, h2, h3, h4, h5, h6]
          · simp [h1, h2, h3, h4, h5]
        · simp [h1, h2, h3, h4]
      · simp [h1, h2, h3]
    · simp [h1, h2]
  · simp [h1]
theorem eqM_refl (a : LM) : eqM a a = true := by simp [eqM]
theorem eqM_eq {a b : LM} (h : eqM a b = true) : a = b := by
  unfold eqM at h
  simp only [Bool.and_eq_true, beq_iff_eq] at h
  obtain ⟨⟨⟨⟨⟨⟨h1, h2⟩, h3⟩, h4⟩, h5⟩, h6⟩, h7⟩ := h
  rw [ByteArray.toList_eq, ByteArray.toList_eq, Array.toList_inj] at h1
  have h1' : a.nm = b.nm := ByteArray.ext h1
  cases a; cases b
  simp only at h1' h2 h3 h4 h5 h6 h7
  subst h1' h2 h3 h4 h5 h6 h7
  rfl
/-- Are lists of members alike? -/
def eqL : List LM → List LM → Bool
  | [], [] => true
  | a :: l, b :: k => eqM a b && eqL l k
  | _, _ => false
theorem eqL_refl : ∀ l : List LM, eqL l l = true
  | [] => rfl
  | a :: l => by rw [eqL, eqM_refl, eqL_refl l]; rfl
theorem eqL_eq : ∀ {l k : List LM}, eqL l k = true → l = k
  | [], [], _ => rfl
  | a :: l, b :: k, h => by
    rw [eqL, Bool.and_eq_true] at h
    rw [eqM_eq h.1, eqL_eq h.2]
  | [], _ :: _, h => by simp [eqL] at h
  | _ :: _, [], h => by simp [eqL] at h
theorem eqL_len {l k : List LM} (h : l.length ≠ k.length) : eqL l k = false := by
  cases e : eqL l k with
  | false => rfl
  | true => exact absurd (congrArg List.length (eqL_eq e)) h
theorem eqL_bad {l k : List LM} {i : Nat} {a b : LM} (ha : l[i]? = some a) (hb : k[i]? = some b) (h : eqM a b = false) : eqL l k = false := by
  cases e : eqL l k with
  | false => rfl
  | true =>
    rw [eqL_eq e, hb] at ha
    injection ha with ha
    subst ha
    rw [eqM_refl] at h
    cases h
theorem eqL_of {l k : List LM} (hl : l.length = k.length) (h : ∀ i a b, i < l.length → l[i]? = some a → k[i]? = some b → eqM a b = true) : eqL l k = true := by
  have : l = k := List.ext_getElem? fun i => by
    by_cases hi : i < l.length
    · rw [List.getElem?_eq_getElem hi, List.getElem?_eq_getElem (by omega)]
      exact congrArg some (eqM_eq (h i _ _ hi (List.getElem?_eq_getElem hi) (List.getElem?_eq_getElem (by omega))))
    · rw [List.getElem?_eq_none (by omega), List.getElem?_eq_none (by omega)]
  rw [this]
  exact eqL_refl k
theorem drewN_drewN (w : World) (n m : Nat) : (w.drewN n).drewN m = w.drewN (n + m) := by
  first | exact World.drewN_drewN w n m | (simp [World.drewN]; omega)

set_option maxRecDepth 100000 in
set_option maxHeartbeats 2000000 in
theorem refSame_any (A : Option Addr) (l c : Nat) (ms : List LM) (C : Option Addr) (l2 c2 : Nat) (ns : List LM) (B : Nat) (w : World) (hl : ms.length = l) (hl2 : ns.length = l2) (hm : l ≤ 1099511627776)
    (hb : Cells w B A (ms.map LM.cells).flatten) (hb2 : Cells w B C (ns.map LM.cells).flatten) :
    Calls Tryd.prog 13 #[.slice A l c, .slice C l2 c2] w fun e w' => e = .returned (.bool (eqL ms ns)) ∧ ∃ n, w' = w.drewN n := by
  have HC := Lib.hid hb
  have HC2 := Lib.hid hb2
  have HL := Lib.hid hl
  have HL2 := Lib.hid hl2
  have HFL := Lib.hid (mems_len ms)
  have HFL2 := Lib.hid (mems_len ns)
  clear hb hb2 hl hl2
  by_cases hll : l = l2
  · subst hll
    go_enter Tryd.func13, Tryd.ntmps13
    go_wp2
    go_loopg [5] l (fun gk i wr => ∃ k : Nat, k + gk = l ∧ i = .int .i64 k ∧ (∃ n, wr = w.drewN n) ∧ ∀ j a b, j < k → ms[j]? = some a → ns[j]? = some b → eqM a b = true)
    case atStart => exact ⟨0, by omega, rfl, ⟨0, rfl⟩, fun j _ _ h => absurd h (Nat.not_lt_zero j)⟩
    case round =>
      obtain ⟨k, hk, rfl, ⟨n, rfl⟩, hall⟩ := hrel
      have HALL := Lib.hid hall
      clear hall
      by_cases h : k < l
      · obtain ⟨x, hx⟩ : ∃ x, ms[k]? = some x := ⟨_, List.getElem?_eq_getElem (by have := HL.out; omega)⟩
        obtain ⟨y, hy⟩ : ∃ x, ns[k]? = some x := ⟨_, List.getElem?_eq_getElem (by have := HL2.out; omega)⟩
        obtain ⟨b, o, rfl, hbB, hc⟩ := HC.out (by rw [HFL.out, HL.out]; omega)
        obtain ⟨b2, o2, rfl, hbB2, hc2⟩ := HC2.out (by rw [HFL2.out, HL2.out]; omega)
        have HM := Lib.hid (mem_at hbB hc (Below.refl B w) hx)
        have HM2 := Lib.hid (mem_at hbB2 hc2 (Below.refl B w) hy)
        have HX := Lib.hid hx
        have HY := Lib.hid hy
        clear hc hc2 hx hy
        have HRN := Lib.hid (fun W => run_neqM x y W)
        obtain ⟨q, hq⟩ : ∃ q, eqM x y = q := ⟨_, rfl⟩
        have HQ := Lib.hid hq
        rw [hq] at HRN
        clear hq
        obtain ⟨W, hW⟩ : ∃ W, w.drewN n = W := ⟨_, rfl⟩
        have c0 : W.cell? ⟨b, o + k * 7, none⟩ = some (.string x.nm) := by rw [← hW]; exact HM.out.c0
        have d0 : W.cell? ⟨b2, o2 + k * 7, none⟩ = some (.string y.nm) := by rw [← hW]; exact HM2.out.c0
        have c1 : W.cell? ⟨b, o + k * 7 + 1, none⟩ = some (.int .i64 x.at_) := by rw [← hW]; exact HM.out.c1
        have d1 : W.cell? ⟨b2, o2 + k * 7 + 1, none⟩ = some (.int .i64 y.at_) := by rw [← hW]; exact HM2.out.c1
        have c2 : W.cell? ⟨b, o + k * 7 + 2, none⟩ = some (.int .i64 x.fr) := by rw [← hW]; exact HM.out.c2
        have d2 : W.cell? ⟨b2, o2 + k * 7 + 2, none⟩ = some (.int .i64 y.fr) := by rw [← hW]; exact HM2.out.c2
        have c3 : W.cell? ⟨b, o + k * 7 + 3, none⟩ = some (.int .i64 x.ar) := by rw [← hW]; exact HM.out.c3
        have d3 : W.cell? ⟨b2, o2 + k * 7 + 3, none⟩ = some (.int .i64 y.ar) := by rw [← hW]; exact HM2.out.c3
        have c4 : W.cell? ⟨b, o + k * 7 + 4, none⟩ = some (.int .i64 x.sz) := by rw [← hW]; exact HM.out.c4
        have d4 : W.cell? ⟨b2, o2 + k * 7 + 4, none⟩ = some (.int .i64 y.sz) := by rw [← hW]; exact HM2.out.c4
        have c5 : W.cell? ⟨b, o + k * 7 + 5, none⟩ = some (.int .u32 x.su) := by rw [← hW]; exact HM.out.c5
        have d5 : W.cell? ⟨b2, o2 + k * 7 + 5, none⟩ = some (.int .u32 y.su) := by rw [← hW]; exact HM2.out.c5
        have c6 : W.cell? ⟨b, o + k * 7 + 6, none⟩ = some (.int .i64 x.me) := by rw [← hW]; exact HM.out.c6
        have d6 : W.cell? ⟨b2, o2 + k * 7 + 6, none⟩ = some (.int .i64 y.me) := by rw [← hW]; exact HM2.out.c6
        have HNW := Lib.hid hW
        rw [hW]
        clear hW
        have hrn := HRN.out
        go_wp2_with fail
        go_quiet (fail)
        clear hrn c0 d0 c1 d1 c2 d2 c3 d3 c4 d4 c5 d5 c6 d6
        cases q with
        | false =>
          go_wp2
          go_ret
          exact ⟨by rw [eqL_bad HX.out HY.out HQ.out]; rfl, n + nq, by rw [← HNW.out]; exact drewN_drewN w n nq⟩
        | true =>
          go_wp2
          go_roundg (gk - 1)
          case measure => omega
          case rel => exact ⟨k + 1, by omega, by go_num, ⟨n + nq, by rw [← HNW.out]; exact drewN_drewN w n nq⟩, fun j a b' hj ha hb => by
            by_cases e : j = k
            · subst e
              rw [HX.out] at ha
              rw [HY.out] at hb
              injection ha with ha
              injection hb with hb
              subst ha hb
              exact HQ.out
            · exact HALL.out j a b' (by omega) ha hb⟩
      · obtain rfl : k = l := by omega
        have HT : Hid (eqL ms ns = true) := eqL_of (by rw [HL.out, HL2.out]) (fun i a b hi => HALL.out i a b (by rw [HL.out] at hi; exact hi))
        go_wp2
        go_ret
        exact ⟨by rw [HT.out]; rfl, n, rfl⟩
  · have hd : decide ((l : Int) = (l2 : Int)) = false := by simp; omega
    have HT : Hid (eqL ms ns = false) := eqL_len (by rw [HL.out, HL2.out]; exact hll)
    have hne : ((l : Int) != (l2 : Int)) = true := by simp; omega
    clear hll
    go_enter Tryd.func13, Tryd.ntmps13
    go_wp2
    go_ret
    exact ⟨by rw [HT.out]; rfl, 0, rfl⟩

end Go.Proofs.YtjoifgeljjgflaaDoor
