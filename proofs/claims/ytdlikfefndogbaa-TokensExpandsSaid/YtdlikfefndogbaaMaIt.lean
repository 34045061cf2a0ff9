/- Layer 10: the candidates, as an iterator tells them. -/
import Derived.Test.YtdlikfefndogbaaRange
import Derived.Test.YtdlikfefndogbaaMaLen
import Derived.Laws.Cover3
import Derived.Stop.BytesEq
import Derived.Sort.QuietIn
import Derived.Lib.Hide
import Derived.Below
namespace Go.Proofs.Ytdlikfefndogbaa
open Go.RowKit Go.Shelf
attribute [local go_sem] Oper.semAt_some

/-- May a match begin there? -/
def begB (l : Nat) (a : Int) : Bool := decide (0 ≤ a) && decide (a ≤ (l : Int) - 3)
set_option maxHeartbeats 400000 in
theorem begins_any (A : Option Addr) (l c : Nat) (a : Int) (w : World) (hm : l ≤ 1099511627776) :
    Calls Try.prog 32 #[.slice A l c, .int .i64 a] w fun e w' => e = .returned (.bool (begB l a)) ∧ w = w' := by
  by_cases h0 : 0 ≤ a
  · have HB : Hid (begB l a = decide (a ≤ (l : Int) - 3)) := by show _ = _; rw [begB, decide_eq_true h0, Bool.true_and]
    have hd : decide (0 ≤ a) = true := decide_eq_true h0
    clear h0
    go_enter Try.func32, Try.ntmps32
    go_wp2
    go_ret
    exact ⟨by rw [HB.out]; rfl, rfl⟩
  · have HB : Hid (begB l a = false) := by show _ = _; rw [begB, decide_eq_false h0, Bool.false_and]
    have hd : decide (0 ≤ a) = false := decide_eq_false h0
    clear h0
    go_enter Try.func32, Try.ntmps32
    go_wp2
    go_ret
    exact ⟨by rw [HB.out]; rfl, rfl⟩
/-- The cells of all blocks but those of S stay. -/
def KeepC (S : Nat → Prop) (W W' : World) : Prop := ∀ k o, W.heap[k]? = some o → o.isCells = true → ¬ S k → W'.heap[k]? = some o
theorem KeepC.refl (S : Nat → Prop) (W : World) : KeepC S W W := fun _ _ h _ _ => h
theorem KeepC.trans {S : Nat → Prop} {A B C : World} (h : KeepC S A B) (k : KeepC S B C) : KeepC S A C := fun j o hj ho hs => k j o (h j o hj ho hs) ho hs
theorem KeepC.cell {S : Nat → Prop} {W W' : World} {a : Addr} {v : Value} (h : KeepC S W W') (hc : W.cell? a = some v) (hs : ¬ S a.block) : W'.cell? a = some v := by
  obtain ⟨o, ho, hi⟩ := cells_of_cell hc
  exact (World.cell?_of_block ((h _ o ho hi hs).trans ho.symm)).trans hc
theorem KeepC.putObj (S : Nat → Prop) (W : World) (l : Nat) (o o' : Obj) (ho : W.heap[l]? = some o) (hc : o.isCells = false) : KeepC S W (W.putObj l o') := fun k p hk hp _ => by
  by_cases h : k = l
  · rw [h, ho] at hk; cases hk; rw [hc] at hp; cases hp
  · exact (World.putObj_heap_other h).trans hk
theorem KeepC.set {S : Nat → Prop} {W : World} (a : Addr) (v : Value) (h : S a.block) : KeepC S W (W.setCell a v) := fun k _ hk _ hs => (Below.heap_setCell W a v k (fun e => hs (by rw [e]; exact h))).trans hk
theorem begB_yes {l : Nat} {a : Int} (h : begB l a = true) : 0 ≤ a ∧ a + 3 ≤ (l : Int) := by
  unfold begB at h
  rw [Bool.and_eq_true, decide_eq_true_eq, decide_eq_true_eq] at h
  omega
theorem begB_no {bs : List UInt8} {l : Nat} {a : Int} (hl : bs.length = l) (h : begB l a = false) : cands bs a = [] := by
  unfold begB at h
  rw [Bool.and_eq_false_iff, decide_eq_false_iff_not, decide_eq_false_iff_not] at h
  rw [cands, if_neg (by omega)]
theorem cands_at {bs : List UInt8} {n : Nat} (h : n + 3 ≤ bs.length) : cands bs (n : Int) = candN bs n (min n 32768) := by
  rw [cands, if_pos (by omega)]
  simp
theorem abidesNo {α : Type} {B : Nat} {J : List α → World → Prop} (h : AbidesS B (fun _ => False) J) {s : List α} {W : World} (o : Obj) (hj : J s W) : J s (W.alloc o) :=
  h s W _ none hj ⟨rfl, rfl, rfl, by simp, fun k hk _ => Below.heap_alloc W o k hk⟩ (fun r e => by cases e)
theorem abidesDrew {α : Type} {B : Nat} {J : List α → World → Prop} (h : AbidesS B (fun _ => False) J) {s : List α} {W : World} (hj : J s W) : J s W.drew :=
  h s W _ none hj ⟨rfl, rfl, rfl, Nat.le_refl _, fun _ _ _ => rfl⟩ (fun r e => by cases e)
theorem abidesDrewN {α : Type} {B : Nat} {J : List α → World → Prop} (h : AbidesS B (fun _ => False) J) {s : List α} {W : World} (hj : J s W) (n : Nat) : J s (W.drewN n) :=
  h s W _ none hj ⟨rfl, rfl, rfl, Nat.le_refl _, fun _ _ _ => rfl⟩ (fun r e => by cases e)
theorem cell_alloc_l {W : World} {a : Addr} {v : Value} (o : Obj) (h : W.cell? a = some v) : (W.alloc o).cell? a = some v := cell_kept h (World.grownBy_alloc W o none) (fun r e => by cases e)
/-- One round, told by one truth value. -/
theorem yieldAt_bool {F : Fence} {n : Nat} {P : Program} {l : Nat} {vs : Array Value} {W : World} {p q : World → Prop} (h : YieldAt F n P l vs W fun e W' => (e = .returned (.bool true) ∧ p W') ∨ (e = .returned (.bool false) ∧ q W')) :
    YieldAt F n P l vs W fun e W' => ∃ t : Bool, e = .returned (.bool t) ∧ (t = true → p W') ∧ (t = false → q W') :=
  h.mono fun e W' h => by
    rcases h with ⟨rfl, h⟩ | ⟨rfl, h⟩
    · exact ⟨true, rfl, fun _ => h, fun h => by cases h⟩
    · exact ⟨false, rfl, (fun h => by cases h), fun _ => h⟩
theorem agg3 {x0 x1 x2 y0 y1 y2 : UInt8} : ((Value.agg #[.int .u8 (y0.toNat : Int), .int .u8 (y1.toNat : Int), .int .u8 (y2.toNat : Int)]) = .agg #[.int .u8 (x0.toNat : Int), .int .u8 (x1.toNat : Int), .int .u8 (x2.toNat : Int)]) ↔ (y0 = x0 ∧ y1 = x1 ∧ y2 = x2) := by
  constructor
  · intro h
    simp at h
    exact ⟨UInt8.toNat_inj.1 (by omega), UInt8.toNat_inj.1 (by omega), UInt8.toNat_inj.1 (by omega)⟩
  · rintro ⟨rfl, rfl, rfl⟩; rfl
theorem three_eq {bs : List UInt8} {q k : Nat} {x0 x1 x2 y0 y1 y2 : UInt8} (h0 : bs[q + (k + 1)]? = some x0) (h1 : bs[q + (k + 1) + 1]? = some x1) (h2 : bs[q + (k + 1) + 2]? = some x2) (g0 : bs[q]? = some y0) (g1 : bs[q + 1]? = some y1) (g2 : bs[q + 2]? = some y2) :
    three bs (q + (k + 1)) (k + 1) = (y0 == x0 && y1 == x1 && y2 == x2) := by
  unfold three
  rw [show q + (k + 1) - (k + 1) = q by omega]
  simp only [List.getD, h0, h1, h2, g0, g1, g2, Option.getD_some]
end Go.Proofs.Ytdlikfefndogbaa
