/- Layer 38: the reference: Merge. -/
import Derived.Test.YtfnkbpcimbldbaaDoorMgQ324SPnQ
import Derived.Test.YtfnkbpcimbldbaaDoorMgQ32431
namespace Go.Proofs.YtfnkbpcimbldbaaDoor
open Go.RowKit

end Go.Proofs.YtfnkbpcimbldbaaDoor
/- Layer 38: wide, lives; the reference's Same of names. -/
namespace Go.Proofs.YtfnkbpcimbldbaaDoor
open Go.RowKit

set_option maxHeartbeats 1000000 in
theorem wide38_any (A : Option Addr) (l c : Nat) (fs : List Fi) (B : Nat) (w : World) (hl : fs.length = l) (hb : Files w B A fs) :
    Calls Tryd.prog 7 #[.slice A l c] w fun e w' => ∃ o : Bool, e = .returned (.bool o) ∧ w = w' ∧ (o = false → fs.length ≤ 250 ∧ ∀ f ∈ fs, f.nm.size ≤ 300 ∧ f.data.length ≤ 70000) := by
  have HC := Lib.hid hb.row
  clear hb
  go_enter Tryd.func7, Tryd.ntmps7
  go_wp2
  go_loopg [3] l (fun gk i wr => ∃ k : Nat, k + gk = l ∧ k ≤ 300 ∧ i = .int .i64 k ∧ wr = w ∧ ∀ (j : Nat) (f : Fi), j < k → fs[j]? = some f → f.nm.size ≤ 300 ∧ f.data.length ≤ 70000)
  case atStart => exact ⟨0, by omega, by omega, rfl, rfl, fun j f hj => absurd hj (Nat.not_lt_zero _)⟩
  case round =>
    obtain ⟨k, hk, hk3, rfl, rfl, hall⟩ := hrel
    have HA := Lib.hid hall
    clear hall
    by_cases h : k < l
    · by_cases h3 : k < 300
      · obtain ⟨f, hx⟩ : ∃ x, fs[k]? = some x := ⟨_, List.getElem?_eq_getElem (by omega)⟩
        obtain ⟨b, o, rfl, _, hc⟩ := HC.out (by rw [fi_len]; omega)
        obtain ⟨c0, c1⟩ := fi_at hc hx
        have HX := Lib.hid hx
        have hd3 : decide ((k : Int) < 300) = true := by simp; omega
        have HK3 := Lib.hid h3
        have hw1 : IntKind.i64.wrap ((k : Int) + 1) = (k : Int) + 1 := IntWalk.i64_in _ (by omega)
        clear hc hx h3 hk3
        by_cases hs : 300 < f.nm.size
        · have hd : decide (300 < (f.nm.size : Int)) = true := by simp; omega
          clear hs
          go_wp2
          go_ret
          exact ⟨true, rfl, rfl, fun h => by cases h⟩
        · have hd : decide (300 < (f.nm.size : Int)) = false := by simp; omega
          by_cases hs2 : 70000 < f.data.length
          · have hd2 : decide (70000 < (f.data.length : Int)) = true := by simp; omega
            clear hs hs2
            go_wp2
            go_ret
            exact ⟨true, rfl, rfl, fun h => by cases h⟩
          · have hd2 : decide (70000 < (f.data.length : Int)) = false := by simp; omega
            have HNA : Hid (f.nm.size ≤ 300 ∧ f.data.length ≤ 70000) := by constructor <;> omega
            clear hs hs2
            go_wp2
            go_roundg (gk - 1)
            case measure => omega
            case rel =>
              have hk3 := HK3.out
              exact ⟨k + 1, by omega, by omega, by go_num, rfl, fun j f' hj hf' => by
              by_cases hjk : j = k
              · subst hjk
                rw [HX.out] at hf'
                injection hf' with hf'
                subst hf'
                exact HNA.out
              · exact HA.out j f' (by omega) hf'⟩
      · obtain rfl : k = 300 := by omega
        have hl2 : decide (250 < (l : Int)) = true := by simp; omega
        go_wp2
        go_ret
        exact ⟨true, by rw [← hl2]; rfl, rfl, fun h => by cases h⟩
    · obtain rfl : k = l := by omega
      go_wp2
      go_ret
      exact ⟨decide (250 < (k : Int)), rfl, rfl, fun hd => ⟨by simp at hd; omega, fun f hf => by
        obtain ⟨j, hj⟩ := List.mem_iff_getElem?.1 hf
        exact HA.out j f (by have := (List.getElem?_eq_some_iff.1 hj).1; omega) hj⟩⟩

theorem one_files (V : World) (b : Nat) (s : ByteArray) (fr : Nat × Nat) (h : V.heap[b]? = some (.cells #[.string s, .slice none 0 0] 32 fr)) : Files V V.heap.size (some ⟨b, 0, none⟩) [⟨s, [], none, 0⟩] := by
  refine ⟨fun _ => ⟨b, 0, rfl, (Array.getElem?_eq_some_iff.1 h).1, fun j u hj => ?_⟩, fun f hf => ?_⟩
  · rw [Nat.zero_add, cell_of_row _ _ _ _ _ _ h]
    simpa [fiCells, Fi.cells] using hj
  · rw [List.mem_singleton] at hf
    subst hf
    exact ⟨fun hp => absurd hp (by unfold byteCells; simp), Nat.le_refl _⟩
theorem diff_one : diffL [((⟨#[97]⟩ : ByteArray), [])] [((⟨#[98]⟩ : ByteArray), [])] = [(11, ⟨#[97]⟩, []), (3, ⟨#[98]⟩, [])] := by
  have h1 : getK [((⟨#[98]⟩ : ByteArray), ([] : List UInt8))] ⟨#[97]⟩ = none := get_none.2 (by simp)
  have h2 : getK [((⟨#[97]⟩ : ByteArray), ([] : List UInt8))] ⟨#[98]⟩ = none := get_none.2 (by simp)
  unfold diffL goneN putN
  simp [h1, h2]
theorem three_ops {w : World} {B : Nat} {A : Option Addr} {os : List OL} {n m : ByteArray} (h : os.map OL.po = [(11, n, []), (3, m, [])]) (hr : Cells w B A (olCells os)) : ∃ b o, A = some ⟨b, o, none⟩ ∧ os.length = 2 ∧ w.cell? ⟨b, o, none⟩ = some (.int .i64 11) ∧ w.cell? ⟨b, o + 1, none⟩ = some (.string n) ∧ w.cell? ⟨b, o + 7, none⟩ = some (.int .i64 3) ∧ w.cell? ⟨b, o + 8, none⟩ = some (.string m) := by
  rcases os with _ | ⟨x, _ | ⟨y, _ | ⟨z, t⟩⟩⟩
  · cases h
  · simp at h
  · simp only [List.map_cons, List.map_nil, List.cons.injEq, and_true, OL.po, Prod.mk.injEq] at h
    obtain ⟨⟨h1, h2, _⟩, h3, h4, _⟩ := h
    obtain ⟨b, o, e, _, hc⟩ := hr (by rw [ol_len]; show 0 < 2 * 7; omega)
    refine ⟨b, o, e, rfl, ?_, ?_, ?_, ?_⟩
    · rw [← h1]; exact hc 0 _ rfl
    · rw [← h2]; exact hc 1 _ rfl
    · rw [← h3]; exact hc 7 _ rfl
    · rw [← h4]; exact hc 8 _ rfl
  · simp at h
set_option maxRecDepth 100000 in
set_option maxHeartbeats 2000000 in
theorem lives38_any (w : World) : Calls Tryd.prog 8 #[] w fun e w' => e = .returned (.bool true) ∧ Below w.heap.size w w' := by
  obtain ⟨W1, hW1⟩ : ∃ W1, w.alloc (.cells #[.string ⟨#[97]⟩, .slice none 0 0] 32) = W1 := ⟨_, rfl⟩
  obtain ⟨W2, hW2⟩ : ∃ W2, W1.alloc (.cells #[.string ⟨#[98]⟩, .slice none 0 0] 32) = W2 := ⟨_, rfl⟩
  have z1 : W1.heap.size = w.heap.size + 1 := by rw [← hW1, World.size_alloc]
  have hb2 : Below w.heap.size w W2 := by rw [← hW2, ← hW1]; exact ((Below.refl _ w).alloc (Nat.le_refl _) _).alloc (by simp) _
  have p2 : W2.heap[w.heap.size]? = some (.cells #[.string ⟨#[97]⟩, .slice none 0 0] 32 (0, 0)) := by
    rw [← hW2]
    refine (Below.heap_alloc W1 _ _ (by omega)).trans ?_
    rw [← hW1]
    exact heap_alloc_new w _
  have q2 : W2.heap[w.heap.size + 1]? = some (.cells #[.string ⟨#[98]⟩, .slice none 0 0] 32 (0, 0)) := by
    rw [← hW2, ← z1]
    exact heap_alloc_new W1 _
  have HD := Lib.hid (diff_any (some ⟨w.heap.size, 0, none⟩) (some ⟨w.heap.size + 1, 0, none⟩) 1 1 1 1 [⟨⟨#[97]⟩, [], none, 0⟩] [⟨⟨#[98]⟩, [], none, 0⟩] W2.heap.size W2 rfl rfl (by omega) (by omega) (by omega) (by omega) (List.pairwise_singleton ..) (List.pairwise_singleton ..) (one_files W2 _ _ _ p2) (one_files W2 _ _ _ q2) (by intro f hf; rw [List.mem_singleton] at hf; subst hf; exact Nat.zero_le _) (Nat.le_refl _))
  have HB2 := Lib.hid hb2
  clear hb2 p2 q2
  go_enter Tryd.func8, Tryd.ntmps8
  go_wp2_with (go_at_call 13; refine HD.out.mono ?_; rintro e w3 ⟨A', c', os, rfl, hpo, hops, hb3⟩; have hpo2 := (hpo.trans diff_one : os.map OL.po = [(11, ⟨#[97]⟩, []), (3, ⟨#[98]⟩, [])]); have HO := Lib.hid (three_ops hpo2 hops.row); obtain ⟨b, o, rfl, hl, k0, k1, k2, k3⟩ := HO.out; rw [hl]; have HB3 := Lib.hid hb3; clear hpo hops hpo2 HO hb3)
  go_ret
  exact ⟨rfl, HB2.out.trans (HB3.out.mono HB2.out.size)⟩
end Go.Proofs.YtfnkbpcimbldbaaDoor
