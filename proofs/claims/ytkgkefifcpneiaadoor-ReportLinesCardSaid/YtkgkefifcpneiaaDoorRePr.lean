/- Layer 33: steps and their answers in memory; are they too many, or too great. -/
import Derived.Test.YtkgkefifcpneiaaDoorReLaw
namespace Go.Proofs.YtkgkefifcpneiaaDoor
open Go.RowKit

/-- A step, and what it was answered. -/
structure Pr where
  kind : Int
  name : ByteArray
  o2 : Value
  o3 : Value
  o4 : Value
  o5 : Value
  o6 : Value
  e : Int
  ad : Option Addr
  dl : Nat
  dc : Nat
  a2 : Value
  a3 : Value
  a4 : Value
  rf : Bool
  po : Bool
def Pr.op (p : Pr) : List Value := [.int .i64 p.kind, .string p.name, p.o2, p.o3, p.o4, p.o5, p.o6]
def Pr.an (p : Pr) : List Value := [.int .i64 p.e, .slice p.ad p.dl p.dc, p.a2, p.a3, p.a4, .bool p.rf, .bool p.po]
def Pr.cells (p : Pr) : List Value := p.op ++ p.an
def prCells (l : List Pr) : List Value := (l.map Pr.cells).flatten
theorem pr_len (l : List Pr) : (prCells l).length = l.length * 14 := by
  unfold prCells
  induction l with
  | nil => rfl
  | cons f l ih => rw [List.map_cons, List.flatten_cons, List.length_append, ih, List.length_cons]; show 14 + _ = _; omega
theorem pr_at {w : World} {b o : Nat} {l : List Pr} {k : Nat} {f : Pr} (hc : ∀ j u, (prCells l)[j]? = some u → w.cell? ⟨b, o + j, none⟩ = some u) (h : l[k]? = some f) {r : Nat} {u : Value} (hu : f.cells[r]? = some u) :
    w.cell? ⟨b, o + (k * 14 + r), none⟩ = some u := hc _ _ (code_at (rs := l) (code := Pr.cells) (s := 14) (fun _ _ => rfl) h hu)
set_option maxHeartbeats 800000 in
theorem great33_any (A : Option Addr) (l c : Nat) (ps : List Pr) (B : Nat) (w : World) (hl : ps.length = l) (hb : Cells w B A (prCells ps)) :
    Calls Tryd.prog 14 #[.slice A l c] w fun e w' => ∃ o : Bool, e = .returned (.bool o) ∧ w = w' ∧ (o = false → ps.length ≤ 100 ∧ ∀ p ∈ ps, p.name.size ≤ 300) := by
  have HC := Lib.hid hb
  clear hb
  go_enter Tryd.func14, Tryd.ntmps14
  go_wp2
  go_loopg [3] l (fun gk i wr => ∃ k : Nat, k + gk = l ∧ k ≤ 100 ∧ i = .int .i64 k ∧ wr = w ∧ ∀ (j : Nat) (f : Pr), j < k → ps[j]? = some f → f.name.size ≤ 300)
  case atStart => exact ⟨0, by omega, by omega, rfl, rfl, fun j f hj => absurd hj (Nat.not_lt_zero _)⟩
  case round =>
    obtain ⟨k, hk, hk3, rfl, rfl, hall⟩ := hrel
    have HA19 := Lib.hid hall
    clear hall
    by_cases h : k < l
    · by_cases h3 : k < 100
      · obtain ⟨f, hx⟩ : ∃ x, ps[k]? = some x := ⟨_, List.getElem?_eq_getElem (by omega)⟩
        obtain ⟨b, o, rfl, hbB, hc⟩ := HC.out (by rw [pr_len]; omega)
        have c0 := pr_at hc hx (r := 1) rfl
        rw [← Nat.add_assoc] at c0
        have HX := Lib.hid hx
        have hd3 : decide ((k : Int) < 100) = true := by simp; omega
        have HK3 := Lib.hid h3
        have hw1 : IntKind.i64.wrap ((k : Int) + 1) = (k : Int) + 1 := IntWalk.i64_in _ (by omega)
        clear hc hx h3 hk3
        by_cases hs : 300 < f.name.size
        · have hd : decide (300 < (f.name.size : Int)) = true := by simp; omega
          clear hs
          go_wp2
          go_ret
          exact ⟨true, rfl, rfl, fun h => by cases h⟩
        · have hd : decide (300 < (f.name.size : Int)) = false := by simp; omega
          have HNA : Hid (f.name.size ≤ 300) := by show _ ≤ _; omega
          clear hs
          go_wp2
          go_roundg (gk - 1)
          case measure => omega
          case rel =>
            have hk3 := HK3.out
            exact ⟨k + 1, by omega, by omega, by go_num, rfl, fun j f' hj hf' => by
            by_cases hjk : j = k
            · subst hjk
              rw [HX.out] at hf'
              injection hf' with hf'
              subst hf'
              exact HNA.out
            · exact HA19.out j f' (by omega) hf'⟩
      · obtain rfl : k = 100 := by omega
        have hl2 : decide (100 < (l : Int)) = true := by simp; omega
        go_wp2
        go_ret
        exact ⟨true, by rw [← hl2]; rfl, rfl, fun h => by cases h⟩
    · obtain rfl : k = l := by omega
      go_wp2
      go_ret
      exact ⟨decide (100 < (k : Int)), rfl, rfl, fun hd => ⟨by simp at hd; omega, fun f hf => by
        obtain ⟨j, hj⟩ := List.mem_iff_getElem?.1 hf
        exact HA19.out j f (by have := (List.getElem?_eq_some_iff.1 hj).1; omega) hj⟩⟩
end Go.Proofs.YtkgkefifcpneiaaDoor
