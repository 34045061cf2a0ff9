/- Layer 6: call, where nothing is to be refused, where the first number is a later one, and where it is this call's. -/
import Derived.Test.YtcfkepahilioaaaFcK
import Derived.Deep.LoopGhost
import Derived.WalkMore
namespace Go.Proofs.Ytcfkepahilioaaa
open Go.RowKit Go.Maps

theorem DirB.al1 {w : World} {d : Nat} {X : FsX} {F : Nat → Prop} {bn bs : Option Nat} {Aw : Option Addr} {cw : Nat} {now safe : List Nt} {ws : List Ch} (h : DirB w d X F bn bs Aw cw now safe ws) (v : Value) : DirB (w.setCell ⟨d, 5, none⟩ v) d { X with al := v } F bn bs Aw cw now safe ws :=
  h.swap ((Mod.refl (oneB d) w).set _ _ (.inl rfl)) (heap_setCell_same w d 5 _ _ _ h.box)
theorem DirB.rd1 {w : World} {d : Nat} {X : FsX} {F : Nat → Prop} {bn bs : Option Nat} {Aw : Option Addr} {cw : Nat} {now safe : List Nt} {ws : List Ch} (h : DirB w d X F bn bs Aw cw now safe ws) (v : Value) : DirB (w.setCell ⟨d, 6, none⟩ v) d { X with rd := v } F bn bs Aw cw now safe ws :=
  h.swap ((Mod.refl (oneB d) w).set _ _ (.inl rfl)) (heap_setCell_same w d 6 _ _ _ h.box)
theorem DirB.rs1 {w : World} {d : Nat} {X : FsX} {F : Nat → Prop} {bn bs : Option Nat} {Aw : Option Addr} {cw : Nat} {now safe : List Nt} {ws : List Ch} (h : DirB w d X F bn bs Aw cw now safe ws) (v : Value) : DirB (w.setCell ⟨d, 7, none⟩ v) d { X with rs := v } F bn bs Aw cw now safe ws :=
  h.swap ((Mod.refl (oneB d) w).set _ _ (.inl rfl)) (heap_setCell_same w d 7 _ _ _ h.box)
theorem DirB.dk1 {w : World} {d : Nat} {X : FsX} {F : Nat → Prop} {bn bs : Option Nat} {Aw : Option Addr} {cw : Nat} {now safe : List Nt} {ws : List Ch} (h : DirB w d X F bn bs Aw cw now safe ws) (v : Value) : DirB (w.setCell ⟨d, 0, none⟩ v) d { X with dk := v } F bn bs Aw cw now safe ws :=
  h.swap ((Mod.refl (oneB d) w).set _ _ (.inl rfl)) (heap_setCell_same w d 0 _ _ _ h.box)
section
variable {w : World} {d : Nat} {X : FsX} {F : Nat → Prop} {bn bs : Option Nat} {Aw : Option Addr} {cw : Nat} {now safe : List Nt} {ws : List Ch}
set_option maxRecDepth 100000
set_option maxHeartbeats 1000000
theorem call6_none (h : DirB w d X F bn bs Aw cw now safe ws) (a : Int) (ha : 0 ≤ a ∧ a ≤ 1000000) (hal : X.al = .int .i64 a) (A : Option Addr) (c : Nat) (hrs : X.rs = .slice A 0 c) :
    Calls Try.prog 30 #[.pointer (some ⟨d, 0, none⟩)] w fun e w' => e = .returned (.int .i64 0) ∧ DirB w' d { X with al := .int .i64 (a + 1) } F bn bs Aw cw now safe ws ∧ Mod (oneB d) w w' := by
  obtain ⟨_, _, c5, _, c7, ff⟩ := h.all
  rw [hal] at c5
  have f5 := ff 5
  have HW := Lib.hid (h.al1 (.int .i64 (a + 1)))
  have HM : Hid (Mod (oneB d) w (w.setCell ⟨d, 5, none⟩ (.int .i64 (a + 1)))) := (Mod.refl (oneB d) w).set _ _ (.inl rfl)
  have hw : IntKind.i64.wrap (a + 1) = a + 1 := IntWalk.i64_in _ (by omega)
  clear h ff c7
  go_enter Try.func30, Try.ntmps30
  go_wp2
  go_step3
  go_wp2
  go_step3
  go_wp2
  generalize w.setCell ⟨d, 5, none⟩ (.int .i64 (a + 1)) = W1 at *
  have c7 := HW.out.all.2.2.2.2.1
  simp only [hrs] at c7
  go_loopg [3] 0 (fun _ e wr => e = .int .i64 0 ∧ W1 = wr)
  case atStart => exact ⟨rfl, rfl⟩
  case round =>
    obtain ⟨rfl, rfl⟩ := hrel
    go_wp2
    simp only [Exit.noGoto]
    go_ret
    exact ⟨rfl, HW.out, HM.out⟩
theorem call6_later (h : DirB w d X F bn bs Aw cw now safe ws) (a : Int) (ha : 0 ≤ a ∧ a ≤ 1000000) (hal : X.al = .int .i64 a) (g o k c : Nat) (n : Int) (hrs : X.rs = .slice (some ⟨g, o, none⟩) (k + 1) c) (hg : g ≠ d) (hc : w.cell? ⟨g, o, none⟩ = some (.int .i64 n)) (hn : a + 1 < n) :
    Calls Try.prog 30 #[.pointer (some ⟨d, 0, none⟩)] w fun e w' => e = .returned (.int .i64 0) ∧ DirB w' d { X with al := .int .i64 (a + 1) } F bn bs Aw cw now safe ws ∧ Mod (oneB d) w w' := by
  obtain ⟨_, _, c5, _, c7, ff⟩ := h.all
  rw [hal] at c5
  have f5 := ff 5
  have HW := Lib.hid (h.al1 (.int .i64 (a + 1)))
  have HM : Hid (Mod (oneB d) w (w.setCell ⟨d, 5, none⟩ (.int .i64 (a + 1)))) := (Mod.refl (oneB d) w).set _ _ (.inl rfl)
  have hw : IntKind.i64.wrap (a + 1) = a + 1 := IntWalk.i64_in _ (by omega)
  have hc1 : (w.setCell ⟨d, 5, none⟩ (.int .i64 (a + 1))).cell? ⟨g, o, none⟩ = some (.int .i64 n) := by
    have : (w.setCell ⟨d, 5, none⟩ (.int .i64 (a + 1))).heap[g]? = w.heap[g]? := Below.heap_setCell w ⟨d, 5, none⟩ _ g hg
    unfold World.cell? at hc ⊢
    rw [this]
    exact hc
  have hd : decide (a + 1 < n) = true := decide_eq_true hn
  have hk : (0 : Int) < (k : Int) + 1 := by omega
  clear h ff c7 hc
  go_enter Try.func30, Try.ntmps30
  go_wp2
  go_step3
  go_wp2
  go_step3
  go_wp2
  generalize w.setCell ⟨d, 5, none⟩ (.int .i64 (a + 1)) = W1 at *
  have c7 := HW.out.all.2.2.2.2.1
  have c5' := HW.out.all.2.2.1
  simp only [hrs] at c7
  go_loopg [3] 0 (fun _ e wr => e = .int .i64 0 ∧ W1 = wr)
  case atStart => exact ⟨rfl, rfl⟩
  case round =>
    obtain ⟨rfl, rfl⟩ := hrel
    go_wp2
    go_ret
    exact ⟨rfl, HW.out, HM.out⟩
theorem call6_this (h : DirB w d X F bn bs Aw cw now safe ws) (a r : Int) (ha : 0 ≤ a ∧ a ≤ 1000000) (hr : 0 ≤ r ∧ r ≤ 1000000) (hal : X.al = .int .i64 a) (hrd : X.rd = .int .i64 r) (g o c : Nat) (hrs : X.rs = .slice (some ⟨g, o, none⟩) 1 (c + 1)) (hg : g ≠ d) (hc : w.cell? ⟨g, o, none⟩ = some (.int .i64 (a + 1))) :
    Calls Try.prog 30 #[.pointer (some ⟨d, 0, none⟩)] w fun e w' => e = .returned (.int .i64 10) ∧ (∃ A c', DirB w' d { X with al := .int .i64 (a + 1), rd := .int .i64 (r + 1), rs := .slice A 0 c' } F bn bs Aw cw now safe ws) ∧ Mod (oneB d) w w' := by
  obtain ⟨_, _, c5, _, c7, ff⟩ := h.all
  rw [hal] at c5
  have f5 := ff 5
  have HW := Lib.hid (h.al1 (.int .i64 (a + 1)))
  have HM : Hid (Mod (oneB d) w (w.setCell ⟨d, 5, none⟩ (.int .i64 (a + 1)))) := (Mod.refl (oneB d) w).set _ _ (.inl rfl)
  have hw : IntKind.i64.wrap (a + 1) = a + 1 := IntWalk.i64_in _ (by omega)
  have hwr : IntKind.i64.wrap (r + 1) = r + 1 := IntWalk.i64_in _ (by omega)
  have hc1 : (w.setCell ⟨d, 5, none⟩ (.int .i64 (a + 1))).cell? ⟨g, o, none⟩ = some (.int .i64 (a + 1)) := by
    have : (w.setCell ⟨d, 5, none⟩ (.int .i64 (a + 1))).heap[g]? = w.heap[g]? := Below.heap_setCell w ⟨d, 5, none⟩ _ g hg
    unfold World.cell? at hc ⊢
    rw [this]
    exact hc
  have hd : decide (a + 1 < a + 1) = false := decide_eq_false (by omega)
  clear h ff c7 hc
  go_enter Try.func30, Try.ntmps30
  go_wp2
  go_step3
  go_wp2
  go_step3
  go_wp2
  generalize w.setCell ⟨d, 5, none⟩ (.int .i64 (a + 1)) = W1 at *
  have HC1 := Lib.hid hc1
  clear hc1
  go_loopg [3] 1 (fun gk e wr => (gk = 1 ∧ e = .int .i64 0 ∧ W1 = wr) ∨ (gk = 0 ∧ e = .int .i64 10 ∧ (∃ A c', DirB wr d { X with al := .int .i64 (a + 1), rs := .slice A 0 c' } F bn bs Aw cw now safe ws) ∧ Mod (oneB d) w wr))
  case atStart => exact .inl ⟨rfl, rfl, rfl⟩
  case round =>
    rcases hrel with ⟨rfl, rfl, rfl⟩ | ⟨rfl, rfl, ⟨A, c', hD⟩, hm⟩
    · have c7 := HW.out.all.2.2.2.2.1
      have c5' := HW.out.all.2.2.1
      have f7 := HW.out.all.2.2.2.2.2 7
      have hc1 := HC1.out
      simp only [hrs] at c7
      go_wp2
      · go_roundg 0
        case measure => omega
        case rel => exact .inr ⟨rfl, rfl, ⟨_, _, HW.out.rs1 _⟩, HM.out.set _ _ (.inl rfl)⟩
      · go_roundg 0
        case measure => omega
        case rel => exact .inr ⟨rfl, rfl, ⟨_, _, HW.out.rs1 _⟩, HM.out.set _ _ (.inl rfl)⟩
    · have HD := Lib.hid hD
      have HM2 := Lib.hid hm
      have c7 := hD.all.2.2.2.2.1
      have c6 := hD.all.2.2.2.1
      have f6 := hD.all.2.2.2.2.2 6
      simp only [hrd] at c6
      clear hD hm
      go_wp2
      go_ret
      exact ⟨rfl, ⟨_, _, HD.out.rd1 _⟩, HM2.out.set _ _ (.inl rfl)⟩
end
end Go.Proofs.Ytcfkepahilioaaa
