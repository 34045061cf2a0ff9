/- Layer 4: Sync. -/
import Derived.Test.YtjedhemjojcekaaDiskSt
namespace Go.Proofs.Ytjedhemjojcekaa
open Go.RowKit
attribute [local go_sem ↓] Go.wp_at_zero Go.wp_at_succ

theorem own_zero {w : World} {base : Nat} {e : TypeId} {A : Option Addr} {n c : Nat} {xs : List Value} (h : w.ownsRow base e 1 (.slice A n c) n xs) : w.ownsRow base e 1 (.slice A 0 c) 0 [] := by
  rcases h.2 with ⟨h1, h2⟩ | ⟨g, cap, cur, h1, hb, hh, h3, h4, h5, h6⟩
  · injection h1 with h1 _ h3
    subst h1 h3
    exact World.ownsRow_nil _ _ _ _
  · injection h1 with h1 _ h7
    subst h1 h7
    exact ⟨by simp, .inr ⟨g, c, cur, rfl, hb, hh, Nat.zero_le _, h4, h5, by simp⟩⟩
theorem App.undrew {w w' : World} {base : Nat} {e : TypeId} {size : Nat} {v v' : Value} {n : Nat} {xs : List Value} (h : App w.drew base e size v n xs w' v') : App w base e size v n xs w' v' :=
  ⟨h.own, ⟨h.grow.os, h.grow.tape, h.grow.output, h.grow.size, h.grow.block⟩, h.loc⟩
theorem ownS_len (A : Option Addr) (n c m d : Nat) : ownS (.slice A n c) = ownS (.slice A m d) := by
  funext k
  cases A <;> rfl

theorem sync_state {w w7 : World} {g base : Nat} {now safe : List UInt8} {L : List Wt} {A1 A2 A3 A : Option Addr} {c1 c2 c3 c : Nat} (h : DkL w g base now safe L A1 c1 A2 c2 A3 c3)
    (hA : App w base 5 1 (.slice A2 0 c2) now.length (byteCells now) w7 (.slice A now.length c)) :
    ∃ S', DkS ((w7.setCell ⟨g, 1, none⟩ (.slice A now.length c)).setCell ⟨g, 2, none⟩ (.slice none 0 0)) g base S' now now [] ∧
      Mod (dS g (.slice A1 now.length c1) (.slice A2 safe.length c2) (.slice A3 L.length c3)) w ((w7.setCell ⟨g, 1, none⟩ (.slice A now.length c)).setCell ⟨g, 2, none⟩ (.slice none 0 0)) ∧
      ∀ k, S' k → dS g (.slice A1 now.length c1) (.slice A2 safe.length c2) (.slice A3 L.length c3) k ∨ w.heap.size ≤ k := by
  have hm1 : Mod (ownS (.slice A2 safe.length c2)) w w7 := by rw [ownS_len A2 safe.length c2 0 c2]; exact Mod.of_app hA
  have hb7 : DkB w7 g (.slice A1 now.length c1) (.slice A2 safe.length c2) (.slice A3 L.length c3) := hm1.keep h.blk h.ne2
  have ho1 : OwnB w7 base 5 (.slice A1 now.length c1) now.length now := own_keep h.o1 hm1 h.apart
  have hne1 : ¬ ownS (.slice A1 now.length c1) g := own_ne ho1 hb7 (by decide)
  have hne2 : ¬ ownS (.slice A now.length c) g := own_ne hA.own hb7 (by decide)
  have hpl : ∀ k, ownS (.slice A now.length c) k → ownS (.slice A2 safe.length c2) k ∨ w.heap.size ≤ k := fun k hk => by rw [ownS_len A2 safe.length c2 0 c2]; exact hA.place k hk
  have hset : Mod (oneB g) w7 ((w7.setCell ⟨g, 1, none⟩ (.slice A now.length c)).setCell ⟨g, 2, none⟩ (.slice none 0 0)) := ((Mod.refl (oneB g) w7).set ⟨g, 1, none⟩ _ (.inl rfl)).set ⟨g, 2, none⟩ _ (.inl rfl)
  refine ⟨dS g (.slice A1 now.length c1) (.slice A now.length c) (.slice none 0 0), ⟨[], A1, c1, A, c, none, 0, ⟨(hb7.set1).set2, own_keep ho1 hset (fun k hk he => hne1 (he ▸ hk)), own_keep hA.own hset (fun k hk he => hne2 (he ▸ hk)), World.ownsRow_nil _ _ _ _, fun k hk h2 => ?_, fun _ hx => by cases hx⟩, rfl, rfl⟩, ?_, ?_⟩
  · rcases hpl k h2 with h3 | h3
    · exact h.apart k hk h3
    · have := own_lt h.o1 k hk
      omega
  · exact (hm1.mono (fun k hk => dS_2 k hk)).trans hset (fun k hk => .inl (by rw [show k = g from hk]; exact dS_g ..))
  · rintro k (hk | hk | hk | hk)
    · exact .inl (.inl hk)
    · exact .inl (dS_1 k hk)
    · rcases hpl k hk with h3 | h3
      · exact .inl (dS_2 k h3)
      · exact .inr h3
    · cases hk

set_option maxRecDepth 100000 in
set_option maxHeartbeats 1000000 in
theorem sync_any (g base : Nat) (S : Nat → Prop) (now safe : List UInt8) (waits : List (Nat × List UInt8)) (w : World) (h : DkS w g base S now safe waits) (hm : now.length ≤ 2097152) (hbase : base ≤ w.heap.size) :
    Calls Try.prog 12 #[.pointer (some ⟨g, 0, none⟩)] w fun e w' => e = .returned (.tuple #[]) ∧ ∃ S', DkS w' g base S' now now [] ∧ Mod S w w' ∧ ∀ k, S' k → S k ∨ w.heap.size ≤ k := by
  obtain ⟨L, A1, c1, A2, c2, A3, c3, h, rfl, rfl⟩ := h
  have HL := Lib.hid h
  have HO2 := Lib.hid (own_zero h.o2)
  have HC := Lib.hid (Cells.of_own h.o1)
  have HNE2 := Lib.hid h.ne2
  have HAA := Lib.hid (own_A h.o2)
  obtain ⟨k0, k1, k2, f0, f1, f2⟩ := h.blk.cells
  have HB := Lib.hid h.blk
  have hlA := own_A h.o2
  clear h HNE2
  have HBS := Lib.hid hbase
  generalize hgl : now.length = l at *
  generalize hg2 : safe.length = l2 at *
  have HGL := Lib.hid hgl
  have HG2 := Lib.hid hg2
  have HBC : Hid ((byteCells now).length = l * 1) := by show _ = _; rw [byteCells_length, hgl, Nat.mul_one]
  clear hgl hg2 HAA hbase
  rcases hlA with ⟨rfl, rfl, rfl⟩ | ⟨b2, rfl⟩
  all_goals
    go_enter Try.func12, Try.ntmps12
    go_wp2
    go_region_law (refine step_app w.drew byteElem4 (by rfl) (.tmp 9) (.tmp 13) (by rfl) base _ 0 [] (by rfl) HO2.out.drew w.heap.size A1 l c1 (byteCells now) (by rfl) HBC.out HC.out.drew (byteCells_one _) (by unfold maxLen; omega) (by omega) HBS.out ?_; intro A c w7 hA; have HA := Lib.hid (App.undrew hA); clear hA; have HB7 : Hid (DkB w7 g (.slice A1 l c1) _ (.slice A3 L.length c3)) := (Mod.of_app HA.out).keep HB.out (own_ne HO2.out HB.out (by decide)); obtain ⟨c0, c1', c2', d0, d1, d2⟩ := HB7.out.cells)
    all_goals
      simp only [Nat.zero_add, List.nil_append] at HA
      have HST := Lib.hid (sync_state HL.out (by have h := HA.out; rw [← HGL.out] at h; exact h))
      rw [HGL.out, HG2.out] at HST
      go_wp2
      go_end0
      exact ⟨rfl, HST.out⟩
end Go.Proofs.Ytjedhemjojcekaa
