/- Layer 25, plainly: files that are alike stand alike; bytes in blocks of their own. -/
import Derived.Test.YtfnkbpcimbldbaaDoorMgQ32424
import Derived.Test.YtfnkbpcimbldbaaDoorMgQ32401
namespace Go.Proofs.YtfnkbpcimbldbaaDoor
open Go.RowKit

theorem ris_key {l : List Fi} : Ris Fi.nm l ↔ Ris Prod.fst (l.map Fi.key) := by
  unfold Ris
  rw [List.pairwise_map]
  rfl
theorem with_key (l : List Fi) (m : Fi) : (withK Fi.nm l m).map Fi.key = withK Prod.fst (l.map Fi.key) m.key := by
  unfold withK
  rw [List.map_append, List.map_cons, List.filter_map, List.filter_map]
  rfl
theorem out_key (l : List Fi) (s : ByteArray) : (outK Fi.nm l s).map Fi.key = outK Prod.fst (l.map Fi.key) s := by
  unfold outK
  rw [List.filter_map]
  rfl
theorem eqF_yes {fs gs : List Fi} (h : fs.map Fi.key = gs.map Fi.key) : eqF fs gs = true := decide_eq_true h
/-- A file's bytes lie in a block of bytes. -/
def TxtB (w : World) (h : Fi) : Prop := ∃ b C fr, h.ad = some ⟨b, 0, none⟩ ∧ w.heap[b]? = some (.cells C 5 fr) ∧ ∀ (j : Nat) (u : Value), (byteCells h.data)[j]? = some u → C[j]? = some u
theorem TxtB.bytes {w : World} {h : Fi} (t : TxtB w h) : Bytes w w.heap.size h.ad h.data := fun _ => by
  obtain ⟨b, C, fr, e, hb, hc⟩ := t
  refine ⟨b, 0, e, (Array.getElem?_eq_some_iff.1 hb).1, fun j u hj => ?_⟩
  rw [Nat.zero_add]
  exact (cell_of_row _ _ _ _ _ _ hb).trans (hc j u hj)
theorem TxtB.keep {w w' : World} {row : Option Nat} {h : Fi} (t : TxtB w h) (hg : w.grownBy w' row) (hr : ∀ g, row = some g → ∃ C, w.heap[g]? = some (.cells C 32 (0, 0))) : TxtB w' h := by
  obtain ⟨b, C, fr, e, hb, hc⟩ := t
  have hlt := (Array.getElem?_eq_some_iff.1 hb).1
  refine ⟨b, C, fr, e, (hg.block b hlt (fun hbr => ?_)).trans hb, hc⟩
  obtain ⟨C', hC⟩ := hr b hbr.symm
  rw [hb] at hC
  injection hC with hC
  injection hC with _ h2 _
  exact absurd h2 (by decide)
end Go.Proofs.YtfnkbpcimbldbaaDoor
/- Layer 38: plan.least: the first name of all that lists still have. -/
namespace Go.Proofs.YtfnkbpcimbldbaaDoor
open Go.RowKit

/-- A row of files in memory. -/
structure FL where
  ad : Option Addr
  cp : Nat
  fs : List Fi
def FL.val (q : FL) : Value := .slice q.ad q.fs.length q.cp
/-- Rows of files, told by a row of slices. -/
structure Rests (w : World) (B r : Nat) (qs : List FL) : Prop where
  row : ∀ i q, qs[i]? = some q → w.cell? ⟨r, i, none⟩ = some (.slice q.ad q.fs.length q.cp)
  each : ∀ q ∈ qs, Files w B q.ad q.fs
  few : ∀ q ∈ qs, q.fs.length ≤ 1000000 ∧ (q.ad = none ∨ q.fs.length ≤ q.cp)
set_option maxRecDepth 100000 in
set_option maxHeartbeats 2000000 in
theorem least_no (B r m c : Nat) (qs : List FL) (w : World) (hl : qs.length = m) (hm : m ≤ 1000) (hq : Rests w B r qs) (hn : ∀ q ∈ qs, q.fs = []) :
    Calls Tryd.prog 39 #[.slice (some ⟨r, 0, none⟩) m c] w fun e w' => e = .returned (.tuple #[.string ⟨#[]⟩, .bool false]) ∧ w = w' := by
  have HR := Lib.hid hq.row
  have HL := Lib.hid hl
  have HN := Lib.hid hn
  clear hq hl hn
  go_enter Tryd.func39, Tryd.ntmps39
  go_wp2
  go_loopg [2, 3, 5, 8] m (fun gk s b _ i wr => ∃ k : Nat, k + gk = m ∧ i = .int .i64 (k : Int) ∧ s = .string ⟨#[]⟩ ∧ b = .bool false ∧ wr = w)
  case atStart => exact ⟨0, by omega, rfl, rfl, rfl, rfl⟩
  case round =>
    obtain ⟨k, hk, rfl, rfl, rfl, rfl⟩ := hrel
    by_cases h : k < m
    · obtain ⟨q, hx⟩ : ∃ x, qs[k]? = some x := ⟨_, List.getElem?_eq_getElem (by have := HL.out; omega)⟩
      have c0 := HR.out k q hx
      rw [HN.out q (List.mem_of_getElem? hx), List.length_nil] at c0
      have hki : (k : Int) < (m : Int) := by omega
      have hw1 : IntKind.i64.wrap ((k : Int) + 1) = (k : Int) + 1 := IntWalk.i64_in _ (by omega)
      clear hx
      go_wp2
      go_roundg (gk - 1)
      case measure => omega
      case rel => exact ⟨k + 1, by omega, by go_num, rfl, rfl, rfl⟩
    · obtain rfl : k = m := by omega
      go_wp2
      go_ret2
      exact ⟨rfl, rfl⟩
set_option maxRecDepth 100000 in
set_option maxHeartbeats 2000000 in
theorem least_yes (B r m c : Nat) (qs : List FL) (n : ByteArray) (w : World) (hl : qs.length = m) (hm : m ≤ 1000) (hq : Rests w B r qs) (hn : ∀ q ∈ qs, ∀ y t, q.fs = y :: t → y.nm = n ∨ ltN n y.nm = true) (hy : ∃ q ∈ qs, ∃ y t, q.fs = y :: t ∧ y.nm = n) :
    Calls Tryd.prog 39 #[.slice (some ⟨r, 0, none⟩) m c] w fun e w' => e = .returned (.tuple #[.string n, .bool true]) ∧ w = w' := by
  have HR := Lib.hid hq.row
  have HE := Lib.hid hq.each
  have HL := Lib.hid hl
  have HN := Lib.hid hn
  have HY := Lib.hid hy
  clear hq hl hn hy
  go_enter Tryd.func39, Tryd.ntmps39
  go_wp2
  go_loopg [2, 3, 5, 8] m (fun gk s b _ i wr => ∃ (k : Nat) (sv : ByteArray) (bv : Bool), k + gk = m ∧ i = .int .i64 (k : Int) ∧ s = .string sv ∧ b = .bool bv ∧ wr = w ∧ (bv = true → sv = n ∨ ltN n sv = true) ∧ ∀ (j : Nat) (q : FL) (y : Fi) (t : List Fi), j < k → qs[j]? = some q → q.fs = y :: t → bv = true ∧ (y.nm = n → sv = n))
  case atStart => exact ⟨0, _, _, by omega, rfl, rfl, rfl, rfl, fun h => (by cases h), fun j q y t hj => absurd hj (Nat.not_lt_zero _)⟩
  case round =>
    obtain ⟨k, sv, bv, hk, rfl, rfl, rfl, rfl, hsv, hall⟩ := hrel
    have HS := Lib.hid hsv
    have HA := Lib.hid hall
    clear hsv hall
    by_cases h : k < m
    · obtain ⟨q, hx⟩ : ∃ x, qs[k]? = some x := ⟨_, List.getElem?_eq_getElem (by have := HL.out; omega)⟩
      have HX := Lib.hid hx
      have c0 := HR.out k q hx
      have HF := Lib.hid (HE.out q (List.mem_of_getElem? hx)).row
      have HNQ := Lib.hid (HN.out q (List.mem_of_getElem? hx))
      have hki : (k : Int) < (m : Int) := by omega
      have hw1 : IntKind.i64.wrap ((k : Int) + 1) = (k : Int) + 1 := IntWalk.i64_in _ (by omega)
      have hstep : ∀ (sv' : ByteArray) (bv' : Bool), (bv = true → bv' = true) → (∀ (j : Nat) (q : FL) (y : Fi) (t : List Fi), j < k → qs[j]? = some q → q.fs = y :: t → y.nm = n → sv' = n) → (∀ y t, q.fs = y :: t → bv' = true ∧ (y.nm = n → sv' = n)) →
          ∀ (j : Nat) (q : FL) (y : Fi) (t : List Fi), j < k + 1 → qs[j]? = some q → q.fs = y :: t → bv' = true ∧ (y.nm = n → sv' = n) := by
        intro sv' bv' h1 h2 h3 j q' y t hj hq' hy'
        by_cases hjk : j = k
        · subst hjk
          rw [HX.out] at hq'
          injection hq' with hq'
          subst hq'
          exact h3 y t hy'
        · exact ⟨h1 (HA.out j q' y t (by omega) hq' hy').1, fun e => h2 j q' y t (by omega) hq' hy' e⟩
      have HST := Lib.hid hstep
      clear hx hstep
      cases hfs : q.fs with
      | nil =>
        rw [hfs, List.length_nil] at c0
        have HQ := Lib.hid hfs
        clear hfs
        go_wp2
        go_roundg (gk - 1)
        case measure => omega
        case rel => exact ⟨k + 1, sv, bv, by omega, by go_num, rfl, rfl, rfl, HS.out, HST.out sv bv id (fun j q' y t hj hq' hy' e => (HA.out j q' y t hj hq' hy').2 e) (fun y t e => by rw [HQ.out] at e; cases e)⟩
      | cons y t =>
        rw [hfs] at HF
        rw [hfs, List.length_cons] at c0
        obtain ⟨b, o, hbo, _, hc⟩ := HF.out (by rw [fi_len, List.length_cons]; omega)
        rw [hbo] at c0
        have d0 := (fi_at (k := 0) (f := y) hc rfl).1
        rw [Nat.zero_mul, Nat.add_zero] at d0
        have HQ := Lib.hid hfs
        have HNY := Lib.hid (HNQ.out y t hfs)
        have hlen : (0 : Int) < ((t.length + 1 : Nat) : Int) := by omega
        clear hfs hc hbo
        cases bv with
        | false =>
          go_wp2
          go_roundg (gk - 1)
          case measure => omega
          case rel => exact ⟨k + 1, y.nm, true, by omega, by go_num, rfl, rfl, rfl, fun _ => HNY.out, HST.out _ _ (fun _ => rfl) (fun j q' y' t' hj hq' hy' e => by have := (HA.out j q' y' t' hj hq' hy').1; cases this) (fun y' t' e => by rw [HQ.out] at e; injection e with e1 e2; subst e1; exact ⟨rfl, id⟩)⟩
        | true =>
          have HSV := Lib.hid (HS.out rfl)
          obtain ⟨cb, hcm⟩ : ∃ cb, Op.bytesLess y.nm.toList sv.toList = cb := ⟨_, rfl⟩
          have HC : Hid (ltN y.nm sv = cb) := hcm
          cases cb with
          | true =>
            go_wp2
            go_roundg (gk - 1)
            case measure => omega
            case rel =>
              refine ⟨k + 1, y.nm, true, by omega, by go_num, rfl, rfl, rfl, fun _ => HNY.out, HST.out _ _ (fun _ => rfl) (fun j q' y' t' hj hq' hy' e => ?_) (fun y' t' e => by rw [HQ.out] at e; injection e with e1 e2; subst e1; exact ⟨rfl, id⟩)⟩
              have h1 := (HA.out j q' y' t' hj hq' hy').2 e
              have h2 := HC.out
              rw [h1] at h2
              rcases HNY.out with h3 | h3
              · exact h3
              · rw [ltN_asymm h3] at h2; cases h2
          | false =>
            go_wp2
            go_roundg (gk - 1)
            case measure => omega
            case rel =>
              refine ⟨k + 1, sv, true, by omega, by go_num, rfl, rfl, rfl, fun _ => HSV.out, HST.out _ _ (fun _ => rfl) (fun j q' y' t' hj hq' hy' e => (HA.out j q' y' t' hj hq' hy').2 e) (fun y' t' e => ⟨rfl, fun e2 => ?_⟩)⟩
              rw [HQ.out] at e
              injection e with e1 e3
              subst e1
              have h2 := HC.out
              rw [e2] at h2
              rcases HSV.out with h3 | h3
              · exact h3
              · rw [h3] at h2; cases h2
    · obtain rfl : k = m := by omega
      have HF2 : Hid (bv = true ∧ sv = n) := by
        obtain ⟨q, hq, y, t, hfs, hyn⟩ := HY.out
        obtain ⟨j, hj⟩ := List.mem_iff_getElem?.1 hq
        have h1 := HA.out j q y t (by have := (List.getElem?_eq_some_iff.1 hj).1; have := HL.out; omega) hj hfs
        exact ⟨h1.1, h1.2 hyn⟩
      obtain ⟨hb1, hs1⟩ := HF2.out
      subst hb1 hs1
      go_wp2
      go_ret2
      exact ⟨rfl, rfl⟩
end Go.Proofs.YtfnkbpcimbldbaaDoor
