/- Layer 33: the steps, and the answers, of pairs. -/
import Derived.Test.YtkgkefifcpneiaaDoorRePr
namespace Go.Proofs.YtkgkefifcpneiaaDoor
open Go.RowKit

def opCells (l : List Pr) : List Value := (l.map Pr.op).flatten
def anCells (l : List Pr) : List Value := (l.map Pr.an).flatten
theorem opCells_snoc (l : List Pr) (x : Pr) : opCells (l ++ [x]) = opCells l ++ x.op := by unfold opCells; simp
theorem anCells_snoc (l : List Pr) (x : Pr) : anCells (l ++ [x]) = anCells l ++ x.an := by unfold anCells; simp
theorem takeP_snoc {l : List Pr} {k : Nat} {x : Pr} (h : l[k]? = some x) : l.take (k + 1) = l.take k ++ [x] := by rw [List.take_add_one, h]; rfl
def Pr.one (p : Pr) : Prop := p.o2.oneCell' = true ∧ p.o3.oneCell' = true ∧ p.o4.oneCell' = true ∧ p.o5.oneCell' = true ∧ p.o6.oneCell' = true ∧ p.a2.oneCell' = true ∧ p.a3.oneCell' = true ∧ p.a4.oneCell' = true
theorem Pr.one_op {p : Pr} (h : p.one) : ∀ u ∈ (#[.int .i64 p.kind, .string p.name, p.o2, p.o3, p.o4, p.o5, p.o6] : Array Value).toList, u.oneCell' = true := fun u hu => by
  obtain ⟨h2, h3, h4, h5, h6, _⟩ := h
  simp only [List.mem_cons, List.not_mem_nil, or_false] at hu
  rcases hu with rfl | rfl | rfl | rfl | rfl | rfl | rfl
  all_goals first | rfl | assumption
theorem Pr.one_an {p : Pr} (h : p.one) : ∀ u ∈ (#[.int .i64 p.e, .slice p.ad p.dl p.dc, p.a2, p.a3, p.a4, .bool p.rf, .bool p.po] : Array Value).toList, u.oneCell' = true := fun u hu => by
  obtain ⟨_, _, _, _, _, h2, h3, h4⟩ := h
  simp only [List.mem_cons, List.not_mem_nil, or_false] at hu
  rcases hu with rfl | rfl | rfl | rfl | rfl | rfl | rfl
  all_goals first | rfl | assumption
theorem opElem33 : Elem Tryd.prog 38 36 (.agg #[.int .i64 0, .string ⟨#[]⟩, .slice none 0 0, .int .i64 0, .slice none 0 0, .int .i64 0, .int .u8 0]) 7 96 := Elem.of Tryd.underlying38 (by kernel_rfl) (by kernel_rfl) (by omega)
theorem anElem33 : Elem Tryd.prog 39 47 (.agg #[.int .i64 0, .slice none 0 0, .int .i64 0, .slice none 0 0, .slice none 0 0, .bool false, .bool false]) 7 96 := Elem.of Tryd.underlying39 (by kernel_rfl) (by kernel_rfl) (by omega)
theorem own_base33 {w : World} {base : Nat} {e : TypeId} {size n : Nat} {v : Value} {xs : List Value} (h : w.ownsRow base e size v n xs) : ∀ j, v.ownBlock = some j → base ≤ j := fun j hj => (h.lt j hj).1
theorem parts_apart {wr w2 : World} {base : Nat} {e1 e2 : TypeId} {s1 s2 n k : Nat} {v u v1 : Value} {ys xs1 : List Value} (hu : wr.ownsRow base e2 s2 u k ys) (hd : ∀ q, ownS v q → ¬ ownS u q) (hA : App wr base e1 s1 v n xs1 w2 v1) (q : Nat) (h1 : ownS v1 q) (h2 : ownS u q) : False := by
  rcases hA.place q h1 with h3 | h3
  · exact hd q h3 h2
  · have := own_lt hu q h2
    omega
set_option maxRecDepth 100000 in
set_option maxHeartbeats 2000000 in
theorem parts33_any (A : Option Addr) (l c : Nat) (ps : List Pr) (B : Nat) (w : World) (hl : ps.length = l) (hm : l ≤ 100) (h1 : ∀ p ∈ ps, p.one) (hb : Cells w B A (prCells ps)) (hB : B ≤ w.heap.size) :
    Calls Tryd.prog 15 #[.slice A l c] w fun e w' => ∃ v u, e = .returned (.tuple #[v, u]) ∧ w'.ownsRow w.heap.size 36 7 v l (opCells ps) ∧ w'.ownsRow w.heap.size 47 7 u l (anCells ps) ∧ (∀ q, ownS v q → ¬ ownS u q) ∧ Below w.heap.size w w' := by
  have HC := Lib.hid hb
  have H1 := Lib.hid h1
  have HL := Lib.hid hl
  clear hb h1
  go_enter Tryd.func15, Tryd.ntmps15
  go_wp2
  go_loopg [4, 5, 6] l (fun gk v u i wr => ∃ (k : Nat) (V U : Option Addr) (cv cu : Nat), k + gk = l ∧ v = .slice V k cv ∧ u = .slice U k cu ∧ i = .int .i64 (k : Int) ∧ wr.ownsRow w.heap.size 36 7 v k (opCells (ps.take k)) ∧ wr.ownsRow w.heap.size 47 7 u k (anCells (ps.take k)) ∧ (∀ q, ownS v q → ¬ ownS u q) ∧ Below w.heap.size w wr)
  case atStart => exact ⟨0, none, none, 0, 0, by omega, rfl, rfl, rfl, World.ownsRow_nil .., World.ownsRow_nil .., (fun q hq => by cases hq), Below.refl _ _⟩
  case round =>
    obtain ⟨k, V, U, cv, cu, hk, rfl, rfl, rfl, ho1, ho2, hd, hbel⟩ := hrel
    have HO1 := Lib.hid ho1
    have HO2 := Lib.hid ho2
    have HD := Lib.hid hd
    have HBEL := Lib.hid hbel
    clear ho1 ho2 hd hbel
    by_cases h : k < l
    · obtain ⟨f, hx⟩ : ∃ x, ps[k]? = some x := ⟨_, List.getElem?_eq_getElem (by omega)⟩
      obtain ⟨b, o, rfl, hbB, hc⟩ := HC.out (by rw [pr_len]; omega)
      have HF := Lib.hid (H1.out f (List.mem_of_getElem? hx))
      have HX := Lib.hid hx
      have HCW : Hid (∀ W, Below w.heap.size w W → ∀ (r : Nat) (u : Value), f.cells[r]? = some u → W.cell? ⟨b, o + k * 14 + r, none⟩ = some u) := fun W hW r u hu => by
        rw [Nat.add_assoc]
        exact (hW.cell (p := ⟨b, o + (k * 14 + r), none⟩) (by show b < w.heap.size; omega)).trans (pr_at hc hx hu)
      have hki : (k : Int) < (l : Int) := by omega
      have hw1 : IntKind.i64.wrap ((k : Int) + 1) = (k : Int) + 1 := IntWalk.i64_in _ (by omega)
      have c0 := HCW.out wr HBEL.out 0 _ rfl
      have c1 := HCW.out wr HBEL.out 1 _ rfl
      have c2 := HCW.out wr HBEL.out 2 _ rfl
      have c3 := HCW.out wr HBEL.out 3 _ rfl
      have c4 := HCW.out wr HBEL.out 4 _ rfl
      have c5 := HCW.out wr HBEL.out 5 _ rfl
      have c6 := HCW.out wr HBEL.out 6 _ rfl
      rw [Nat.add_zero] at c0
      clear hc hx hbB
      go_wp2_with ((first
        | (at_builtin; refine wpList_app1 wr opElem33 rfl (.tmp 13) (.tmp 19) rfl w.heap.size (.slice V k cv) k _ rfl HO1.out #[.int .i64 f.kind, .string f.name, f.o2, f.o3, f.o4, f.o5, f.o6] rfl rfl (Pr.one_op HF.out) (by unfold maxLen; omega) (by omega) HBEL.out.size ?_; intro A1 e1 w2 hA; have HA := Lib.hid hA; have HB2 := Lib.hid (hA.below HBEL.out HBEL.out.size (own_base33 HO1.out)); have HU2 := Lib.hid (own_keep HO2.out (Mod.of_app hA) (fun q hq1 hq2 => HD.out q hq2 hq1)); clear hA c0 c1 c2 c3 c4 c5 c6; have d0 := HCW.out w2 HB2.out 7 _ rfl; have d1 := HCW.out w2 HB2.out 8 _ rfl; have d2 := HCW.out w2 HB2.out 9 _ rfl; have d3 := HCW.out w2 HB2.out 10 _ rfl; have d4 := HCW.out w2 HB2.out 11 _ rfl; have d5 := HCW.out w2 HB2.out 12 _ rfl; have d6 := HCW.out w2 HB2.out 13 _ rfl)
        | (at_builtin; refine wpList_app1 w2 anElem33 rfl (.tmp 21) (.tmp 27) rfl w.heap.size (.slice U k cu) k _ rfl HU2.out #[.int .i64 f.e, .slice f.ad f.dl f.dc, f.a2, f.a3, f.a4, .bool f.rf, .bool f.po] rfl rfl (Pr.one_an HF.out) (by unfold maxLen; omega) (by omega) HB2.out.size ?_; intro A2 e2 w3 hA; have HAA := Lib.hid hA; have HB3 := Lib.hid (hA.below HB2.out HB2.out.size (own_base33 HU2.out)); have HV3 := Lib.hid (own_keep HA.out.own (Mod.of_app hA) (fun q hq1 hq2 => parts_apart HO2.out HD.out HA.out q hq1 hq2)); clear hA d0 d1 d2 d3 d4 d5 d6)))
      go_roundg (gk - 1)
      case measure => omega
      case rel =>
        refine ⟨k + 1, A1, A2, e1, e2, by omega, rfl, rfl, by go_num, ?_, ?_, fun q hq1 hq2 => ?_, HB3.out⟩
        · rw [takeP_snoc HX.out, opCells_snoc]; exact HV3.out
        · rw [takeP_snoc HX.out, anCells_snoc]; exact HAA.out.own
        · rcases HAA.out.place q hq2 with h3 | h3
          · exact parts_apart HO2.out HD.out HA.out q hq1 h3
          · have := own_lt HA.out.own q hq1
            omega
    · obtain rfl : k = l := by omega
      have ht : ps.take k = ps := List.take_of_length_le (by have := HL.out; omega)
      rw [ht] at HO1 HO2
      go_wp2
      go_ret2
      exact ⟨_, _, rfl, HO1.out, HO2.out, HD.out, HBEL.out⟩
end Go.Proofs.YtkgkefifcpneiaaDoor
