/- Layer 12: the number of a class and bits. -/
import Derived.Test.YtkikgidmioofaaaGreatMgBSSymLeaf
import Derived.Deep.WholeRow
namespace Go.Proofs.YtkikgidmioofaaaGreat
open Go.RowKit SymP
attribute [local go_sem ↓] Go.wp_at_zero Go.wp_at_succ

/-- A block of three cells that was laid ahead of a call is there behind it. -/
theorem row3_after {w w' : World} {cs : Array Value} {t : TypeId} (h : Below (w.alloc (.cells cs t)).heap.size (w.alloc (.cells cs t)) w') : w'.heap[w.heap.size]? = some (.cells cs t (0, 0)) :=
  (h.block _ (by simp)).trans (heap_alloc_last w _)
theorem row3_cells {w : World} {g : Nat} {t : TypeId} {a b c : Value} (h : w.heap[g]? = some (.cells #[a, b, c] t (0, 0))) :
    w.cell? ⟨g, 0, none⟩ = some a ∧ w.cell? ⟨g, 1, none⟩ = some b ∧ w.cell? ⟨g, 2, none⟩ = some c :=
  ⟨cell_of_row w g 0 _ _ _ h, cell_of_row w g 1 _ _ _ h, cell_of_row w g 2 _ _ _ h⟩
theorem row3_alloc {w : World} {g : Nat} {t : TypeId} {cs : Array Value} (h : w.heap[g]? = some (.cells cs t (0, 0))) (o : Obj) : (w.alloc o).heap[g]? = some (.cells cs t (0, 0)) := by
  rw [Below.heap_alloc w o g (Array.getElem?_eq_some_iff.1 h).1]
  exact h
/-- Its cells, there and behind one more block. -/
theorem row3_both {w : World} {g : Nat} {t : TypeId} {a b c : Value} (h : w.heap[g]? = some (.cells #[a, b, c] t (0, 0))) :
    (∀ o, (w.alloc o).cell? ⟨g, 0, none⟩ = some a) ∧ (∀ o, (w.alloc o).cell? ⟨g, 1, none⟩ = some b) ∧ (∀ o, (w.alloc o).cell? ⟨g, 2, none⟩ = some c) :=
  ⟨fun o => (row3_cells (row3_alloc h o)).1, fun o => (row3_cells (row3_alloc h o)).2.1, fun o => (row3_cells (row3_alloc h o)).2.2⟩

theorem below_call {w w' : World} {o : Obj} (h : Below (w.alloc o).heap.size (w.alloc o) w') : Below w.heap.size w w' :=
  ((Below.refl _ w).alloc (Nat.le_refl _) o).trans (h.mono (by simp))

/-- What a class and bits are the number of. -/
def valC (n b : Int) (x : Nat) : Option Nat := if 0 ≤ n ∧ n < 30 ∧ b = (bitsC n.toNat : Nat) ∧ x < 2 ^ bitsC n.toNat then some (baseC n.toNat + x) else none

theorem value_some (n x : Nat) (w : World) (hn : n < 30) (hx : x < 2 ^ bitsC n) :
    Calls Tryz.prog 158 #[agC n (bitsC n : Nat) x] w fun e w' => e = .returned (.tuple #[.int .i64 (baseC n + x : Nat), .bool true]) ∧ Below w.heap.size w w' := by
  have hle := baseC_top n hn
  have hc : classC (baseC n + x) = n := class_of hn (by omega) (by omega)
  have hm : (baseC n + x) % 2 ^ bitsC n = x := by rw [extra_of hn (by omega) (by omega)]; omega
  have hof := fun W => of_in (baseC n + x) W (by omega)
  rw [hc, hm] at hof
  have HOF := Lib.hid hof
  have HB := Lib.hid (fun W => base_in n W hn)
  obtain ⟨b, hb⟩ : ∃ b, bitsC n = b := ⟨_, rfl⟩
  obtain ⟨y, hy⟩ : ∃ y, baseC n = y := ⟨_, rfl⟩
  rw [hb] at HB HOF hx hle ⊢
  rw [hy] at HB HOF hle ⊢
  have HV : Hid (wrap64 ((y : Int) + x) = ((y + x : Nat) : Int)) := by
    show _ = _
    rw [← IntWalk.i64_left, ← Int.natCast_add]
    generalize 2 ^ b = z at *
    exact IntWalk.i64_in _ (by omega)
  have hxx : IntKind.i64.wrap (x : Int) = x := by
    generalize 2 ^ b = z at *
    exact IntWalk.i64_in _ (by omega)
  clear hof hc hm hle hx
  unfold agC at HOF ⊢
  go_enter Tryz.func158, Tryz.ntmps158
  go_wp2_with (first
    | (go_at_call 146; refine (HB.out _).mono ?_; rintro e w' ⟨rfl, rfl⟩)
    | (go_at_call 73; rw [HV.out]; refine (HOF.out _).mono ?_; rintro e w4 ⟨rfl, hbw⟩; have HR4 := Lib.hid (row3_after hbw); obtain ⟨q0, q1, q2⟩ := row3_both HR4.out; have HB4 := Lib.hid hbw; clear hbw))
  go_ret2
  exact ⟨rfl, (below_call HB4.out).alloc (by have := HB4.out.size; simp at this; omega) _⟩

/-- Value, where Base tells y and the sum is beyond all classes. -/
theorem value_far (n b y yb : Int) (ok : Bool) (x : Nat) (w : World) (hy0 : 0 ≤ y) (hy1 : y ≤ 32768) (hx : x < 4294967296) (hf : 32768 ≤ y + x)
    (HB : Hid (∀ W, Calls Tryz.prog 146 #[.int .i64 n] W fun e w' => e = .returned (.tuple #[.int .i64 y, .int .i64 yb, .bool ok]) ∧ W = w')) :
    Calls Tryz.prog 158 #[agC n b x] w fun e w' => e = .returned (.tuple #[.int .i64 0, .bool false]) ∧ Below w.heap.size w w' := by
  have HOF := Lib.hid (fun W => of_out (y + x) W (.inr hf))
  have hxx : IntKind.i64.wrap (x : Int) = x := IntWalk.i64_in _ (by omega)
  have HV : Hid (wrap64 (y + x) = y + x) := by show _ = _; rw [← IntWalk.i64_left]; exact IntWalk.i64_in _ (by omega)
  unfold agC at HOF ⊢
  go_enter Tryz.func158, Tryz.ntmps158
  go_wp2_with (first
    | (go_at_call 146; refine (HB.out _).mono ?_; rintro e w' ⟨rfl, rfl⟩)
    | (go_at_call 73; (try rw [HV.out]); refine (HOF.out _).mono ?_; rintro e w4 ⟨rfl, hbw⟩; have HR4 := Lib.hid (row3_after hbw); obtain ⟨q0, q1, q2⟩ := row3_both HR4.out; have HB4 := Lib.hid hbw; clear hbw))
  go_ret2
  exact ⟨rfl, (below_call HB4.out).alloc (by have := HB4.out.size; simp at this; omega) _⟩

/-- Value, where the sum's class is another one. -/
theorem value_near (n b y yb : Int) (ok : Bool) (x v : Nat) (w : World) (hv : v < 32768) (hyv : y + x = v) (hx : x < 4294967296) (_hy0 : 0 ≤ y)
    (hne : ¬ ((classC v : Int) = n ∧ (bitsC (classC v) : Int) = b ∧ v % 2 ^ bitsC (classC v) = x))
    (HB : Hid (∀ W, Calls Tryz.prog 146 #[.int .i64 n] W fun e w' => e = .returned (.tuple #[.int .i64 y, .int .i64 yb, .bool ok]) ∧ W = w')) :
    Calls Tryz.prog 158 #[agC n b x] w fun e w' => e = .returned (.tuple #[.int .i64 0, .bool false]) ∧ Below w.heap.size w w' := by
  have HOF := Lib.hid (fun W => of_in v W hv)
  generalize classC v = c at *
  generalize bitsC c = k at *
  generalize v % 2 ^ k = z at *
  have hxx : IntKind.i64.wrap (x : Int) = x := IntWalk.i64_in _ (by omega)
  have HV : Hid (wrap64 (y + x) = v) := by show _ = _; rw [← IntWalk.i64_left]; rw [IntWalk.i64_in _ (by omega)]; exact hyv
  clear hyv
  unfold agC at HOF ⊢
  go_enter Tryz.func158, Tryz.ntmps158
  go_wp2_with (first
    | (go_at_call 146; refine (HB.out _).mono ?_; rintro e w' ⟨rfl, rfl⟩)
    | (go_at_call 73; rw [HV.out]; refine (HOF.out _).mono ?_; rintro e w4 ⟨rfl, hbw⟩; have HR4 := Lib.hid (row3_after hbw); obtain ⟨q0, q1, q2⟩ := row3_both HR4.out; have HB4 := Lib.hid hbw; clear hbw))
  all_goals first
    | (go_ret2; exact ⟨rfl, (below_call HB4.out).alloc (by have := HB4.out.size; simp at this; omega) _⟩)
    | (exfalso; omega)

theorem valC_eq {n b : Int} {x : Nat} {m : Nat} (h : valC n b x = none) (hm : n = m) (hm30 : m < 30) : ¬ (b = (bitsC m : Nat) ∧ x < 2 ^ bitsC m) := by
  rintro ⟨h1, h2⟩
  subst hm
  unfold valC at h
  rw [Int.toNat_natCast, if_pos ⟨by omega, by omega, h1, h2⟩] at h
  cases h

theorem value_none (n b : Int) (x : Nat) (w : World) (hx : x < 4294967296) (h : valC n b x = none) :
    Calls Tryz.prog 158 #[agC n b x] w fun e w' => e = .returned (.tuple #[.int .i64 0, .bool false]) ∧ Below w.heap.size w w' := by
  by_cases hn : n < 0 ∨ 30 ≤ n
  · have HB := Lib.hid (fun W => base_out n W hn)
    by_cases hf : 32768 ≤ x
    · exact value_far n b 0 0 false x w (by omega) (by omega) hx (by omega) HB
    · have hc := (class_is x (by omega)).1
      exact value_near n b 0 0 false x x w (by omega) (by omega) hx (by omega) (by omega) HB
  · obtain ⟨m, rfl⟩ := Int.eq_ofNat_of_zero_le (show 0 ≤ n by omega)
    have hm30 : m < 30 := by omega
    have HB := Lib.hid (fun W => base_in m W hm30)
    have htop := baseC_top m hm30
    have hno := valC_eq h rfl hm30
    have hp : 0 < 2 ^ bitsC m := Nat.pow_pos (by omega)
    by_cases hf : 32768 ≤ baseC m + x
    · exact value_far m b (baseC m : Nat) _ true x w (by omega) (by omega) hx (by omega) HB
    · refine value_near m b (baseC m : Nat) _ true x (baseC m + x) w (by omega) (by omega) hx (by omega) ?_ HB
      rintro ⟨h1, h2, h3⟩
      have h1' : classC (baseC m + x) = m := by omega
      rw [h1'] at h2 h3
      exact hno ⟨h2.symm, by rw [← h3]; exact Nat.mod_lt _ hp⟩
end Go.Proofs.YtkikgidmioofaaaGreat
