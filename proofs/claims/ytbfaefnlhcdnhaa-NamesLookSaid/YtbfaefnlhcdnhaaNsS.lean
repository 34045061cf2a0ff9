/- Layer 5: have both the same names, for the same; too many calls. -/
import Derived.Test.YtbfaefnlhcdnhaaNsD
namespace Go.Proofs.Ytbfaefnlhcdnhaa
open Go.RowKit Go.Maps

set_option maxRecDepth 100000 in
set_option maxHeartbeats 1000000 in
theorem same5_any (d : Nat) (F : Nat → Prop) (now safe : List Nt) (ws : List Ch) (A : Option Addr) (c : Nat) (w : World) (h : DirS w d F now safe ws) (hr : Ris Nt.nm now) (hl : now.length ≤ 100000) (hz : ∀ e ∈ now, e.nm.size ≤ 1000) (hA : Cells w w.heap.size A (ntCells now)) :
    Calls Try.prog 10 #[.pointer (some ⟨d, 0, none⟩), .slice A now.length c] w fun e w' => e = .returned (.bool true) ∧ Below w.heap.size w w' := by
  have HD := Lib.hid h
  have HR := Lib.hid hr
  have HZ := Lib.hid hz
  have HN := Lib.hid (names5_any d F now safe ws w h hr hl)
  have HA := Lib.hid hA
  obtain ⟨l, hl2⟩ : ∃ l, now.length = l := ⟨_, rfl⟩
  have HL := Lib.hid hl2
  rw [hl2] at HN hl ⊢
  clear h hr hz hA hl2
  go_enter Try.func10, Try.ntmps10
  go_wp2_with (go_at_call 15; refine HN.out.mono ?_; rintro e w1 ⟨A1, c1, rfl, hc1, hb1⟩; have HC1 := Lib.hid (Cells.of_own hc1); have HB1 := Lib.hid hb1; clear hc1 hb1)
  have HD1 := Lib.hid (HD.out.keep (Mod.of_below HB1.out) (fun _ _ h => h))
  have HA1 := Lib.hid ((HA.out.below HB1.out (Nat.le_refl _)).more HB1.out.size)
  go_loopg [6, 7, 8] l (fun gk i _ _ wr => ∃ k n : Nat, k + gk = l ∧ i = .int .i64 k ∧ wr = w1.drewN n)
  case atStart => exact ⟨0, 0, by omega, rfl, rfl⟩
  case round =>
    obtain ⟨k, n, hk, rfl, hwr⟩ := hrel
    have HWR := Lib.hid hwr
    by_cases h : k < l
    · obtain ⟨x, hx⟩ : ∃ x, now[k]? = some x := ⟨_, List.getElem?_eq_getElem (by have := HL.out; omega)⟩
      have hxm := List.mem_of_getElem? hx
      obtain ⟨b, o, rfl, _, hc⟩ := HA1.out (by rw [nt_len]; have := HL.out; omega)
      obtain ⟨b2, o2, rfl, _, hc2⟩ := HC1.out (by unfold nmCells; rw [List.length_map]; have := HL.out; omega)
      obtain ⟨p0, p1⟩ := nt_at hc hx
      have q0 := hc2 k (.string x.nm) (by unfold nmCells; rw [List.getElem?_map, hx]; rfl)
      have c0 : wr.cell? ⟨b, o + k * 2, none⟩ = some (.string x.nm) := by rw [hwr]; exact p0
      have c1' : wr.cell? ⟨b, o + k * 2 + 1, none⟩ = some (.int .i64 x.id) := by rw [hwr]; exact p1
      have d0 : wr.cell? ⟨b2, o2 + k, none⟩ = some (.string x.nm) := by rw [hwr]; exact q0
      have HDR : Hid (DirS wr d F now safe ws) := by show DirS _ _ _ _ _ _; rw [hwr]; exact HD1.out.keep ((Mod.refl noB w1).drewN n) (fun _ _ h => h)
      have HLK := Lib.hid (lookup5_any d F now safe ws x.nm wr HDR.out HR.out (HZ.out x hxm))
      have hid : idAt now x.nm = x.id := by unfold idAt; rw [find_mem HR.out hxm]
      have hhs : hasK Nt.nm now x.nm = true := hasK_iff.2 ⟨x, hxm, rfl⟩
      rw [hid, hhs] at HLK
      have hki : (k : Int) < (l : Int) := by omega
      have hw1 : IntKind.i64.wrap ((k : Int) + 1) = (k : Int) + 1 := IntWalk.i64_in _ (by omega)
      have hs3 : (x.nm.toList == x.nm.toList) = true := by simp
      clear hc hc2 p0 p1 q0 hx hxm hid hhs hwr
      go_wp2_with (go_at_call 14; refine HLK.out.mono ?_; rintro e w2 ⟨rfl, hw2⟩; subst hw2)
      go_quiet (fail)
      go_wp2
      go_roundg (gk - 1)
      case measure => omega
      case rel => exact ⟨k + 1, _, by omega, by go_num, by rw [HWR.out]; exact World.drewN_drewN ..⟩
    · obtain rfl : k = l := by omega
      go_wp2
      go_ret
      exact ⟨rfl, Below.drewN HB1.out n⟩
/-- A call that came in. -/
structure LOp where
  kind : Int
  a : ByteArray
  b : ByteArray
  n : Int
def LOp.cells (x : LOp) : List Value := [.int .i64 x.kind, .string x.a, .string x.b, .int .i64 x.n]
def opCells (l : List LOp) : List Value := (l.map LOp.cells).flatten
theorem op_len (l : List LOp) : (opCells l).length = l.length * 4 := by
  unfold opCells
  induction l with
  | nil => rfl
  | cons f l ih => rw [List.map_cons, List.flatten_cons, List.length_append, ih, List.length_cons]; show 4 + _ = _; omega
theorem op_at {w : World} {b o : Nat} {l : List LOp} {k : Nat} {f : LOp} (hc : ∀ j u, (opCells l)[j]? = some u → w.cell? ⟨b, o + j, none⟩ = some u) (h : l[k]? = some f) :
    w.cell? ⟨b, o + k * 4, none⟩ = some (.int .i64 f.kind) ∧ w.cell? ⟨b, o + k * 4 + 1, none⟩ = some (.string f.a) ∧ w.cell? ⟨b, o + k * 4 + 2, none⟩ = some (.string f.b) ∧ w.cell? ⟨b, o + k * 4 + 3, none⟩ = some (.int .i64 f.n) := by
  have key : ∀ (r : Nat) (u : Value), f.cells[r]? = some u → w.cell? ⟨b, o + (k * 4 + r), none⟩ = some u := fun r u hu => hc _ _ (code_at (rs := l) (code := LOp.cells) (s := 4) (fun _ _ => rfl) h hu)
  have k0 := key 0 _ rfl
  have k1 := key 1 _ rfl
  have k2 := key 2 _ rfl
  have k3 := key 3 _ rfl
  simp only [← Nat.add_assoc, Nat.add_zero] at k0 k1 k2 k3
  exact ⟨k0, k1, k2, k3⟩
def GreatQ (xs : List LOp) (w : World) (e : Ending) (w' : World) : Prop := ∃ o : Bool, e = .returned (.bool o) ∧ w = w' ∧ (o = false → xs.length ≤ 60 ∧ ∀ x ∈ xs, x.a.size ≤ 300 ∧ x.b.size ≤ 300)
set_option maxRecDepth 100000 in
set_option maxHeartbeats 1000000 in
theorem great5_any (A : Option Addr) (l c : Nat) (xs : List LOp) (B : Nat) (w : World) (hl : xs.length = l) (hb : Cells w B A (opCells xs)) :
    Calls Try.prog 7 #[.slice A l c] w (GreatQ xs w) := by
  have HC := Lib.hid hb
  have HL := Lib.hid hl
  clear hb hl
  go_enter Try.func7, Try.ntmps7
  go_wp2
  go_loopg [3] (min l 100) (fun gk i wr => ∃ k : Nat, k + gk = min l 100 ∧ i = .int .i64 (k : Int) ∧ w = wr ∧ ∀ (j : Nat) (x : LOp), j < k → xs[j]? = some x → x.a.size ≤ 300 ∧ x.b.size ≤ 300)
  case atStart => exact ⟨0, by omega, rfl, rfl, fun j x hj => absurd hj (Nat.not_lt_zero _)⟩
  case round =>
    obtain ⟨k, hk, rfl, rfl, hall⟩ := hrel
    have HA := Lib.hid hall
    clear hall
    by_cases h : k < l
    · have hki : (k : Int) < (l : Int) := by omega
      by_cases h2 : k < 100
      · have hkj : (k : Int) < 100 := by omega
        obtain ⟨x, hx⟩ : ∃ x, xs[k]? = some x := ⟨_, List.getElem?_eq_getElem (by have := HL.out; omega)⟩
        obtain ⟨b, o, rfl, _, hc⟩ := HC.out (by rw [op_len]; have := HL.out; omega)
        obtain ⟨c0, c1, c2, c3⟩ := op_at hc hx
        have hw1 : IntKind.i64.wrap ((k : Int) + 1) = (k : Int) + 1 := IntWalk.i64_in _ (by omega)
        have HX := Lib.hid hx
        clear hc hx
        by_cases ha : 300 < x.a.size
        · have hai : (300 : Int) < (x.a.size : Int) := by omega
          go_wp2
          go_ret
          exact ⟨true, rfl, rfl, fun h => by cases h⟩
        · have hai : ¬ (300 : Int) < (x.a.size : Int) := by omega
          by_cases hb : 300 < x.b.size
          · have hbi : (300 : Int) < (x.b.size : Int) := by omega
            go_wp2
            go_ret
            exact ⟨true, rfl, rfl, fun h => by cases h⟩
          · have hbi : ¬ (300 : Int) < (x.b.size : Int) := by omega
            go_wp2
            go_roundg (gk - 1)
            case measure => omega
            case rel =>
              refine ⟨k + 1, by omega, by go_num, rfl, fun j x' hj hx' => ?_⟩
              by_cases hjk : j = k
              · subst hjk
                rw [HX.out] at hx'
                injection hx' with hx'
                subst hx'
                omega
              · exact HA.out j x' (by omega) hx'
      · have hkj : ¬ (k : Int) < 100 := by omega
        have hli : (60 : Int) < (l : Int) := by omega
        go_wp2
        go_ret
        exact ⟨true, rfl, rfl, fun h => by cases h⟩
    · have hki : ¬ (k : Int) < (l : Int) := by omega
      by_cases h3 : 60 < l
      · have hli : (60 : Int) < (l : Int) := by omega
        go_wp2
        go_ret
        exact ⟨true, rfl, rfl, fun h => by cases h⟩
      · have hli : ¬ (60 : Int) < (l : Int) := by omega
        go_wp2
        go_ret
        refine ⟨false, rfl, rfl, fun _ => ⟨by have := HL.out; omega, fun x hx => ?_⟩⟩
        obtain ⟨j, hj⟩ := List.mem_iff_getElem?.1 hx
        exact HA.out j x (by have := (List.getElem?_eq_some_iff.1 hj).1; have := HL.out; omega) hj
end Go.Proofs.Ytbfaefnlhcdnhaa
