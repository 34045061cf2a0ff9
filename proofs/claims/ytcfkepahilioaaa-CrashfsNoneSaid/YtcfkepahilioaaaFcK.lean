/- Layer 6: a file system's other cells. -/
import Derived.Test.YtcfkepahilioaaaFdO
namespace Go.Proofs.Ytcfkepahilioaaa
open Go.RowKit Go.Maps

theorem map_ne_box6 {w : World} {d b : Nat} {l : List Nt} {cs : Array Value} {t : TypeId} (h : MapN w b l) (hb : w.heap[d]? = some (.cells cs t (0, 0))) : b ≠ d := fun e => by
  subst e
  obtain ⟨es, cl, h2, _⟩ := h
  rw [h2] at hb
  cases hb
theorem DirB.swap {w W : World} {d : Nat} {X X' : FsX} {F : Nat → Prop} {bn bs : Option Nat} {Aw : Option Addr} {cw : Nat} {now safe : List Nt} {ws : List Ch} (h : DirB w d X F bn bs Aw cw now safe ws) (hm : Mod (oneB d) w W)
    (hb : W.heap[d]? = some (.cells (fsC X' bn bs Aw ws.length cw) 71 (0, 0))) : DirB W d X' F bn bs Aw cw now safe ws :=
  have hd : ∀ {o : Option Nat} {l : List Nt}, MapO w o l → ∀ b, o = some b → ¬ oneB d b := fun ho b hb e => by
    rcases ho with ⟨h1, _⟩ | ⟨b', h1, h2⟩
    · rw [h1] at hb; cases hb
    · rw [h1] at hb
      injection hb with hb
      subst hb
      exact map_ne_box6 h2 h.box e
  ⟨hb, h.now.keep hm (hd h.now), h.safe.keep hm (hd h.safe), own_keep h.row hm (fun k hk e => own_ne h.row h.box (by decide) (by have e2 : k = d := e; rw [← e2]; exact hk)), h.fd, h.fn, h.fs, h.fw, h.ne, fun k hk => Nat.lt_of_lt_of_le (h.lt k hk) hm.size⟩
/-- All cells of a file system. -/
theorem DirB.all {w : World} {d : Nat} {X : FsX} {F : Nat → Prop} {bn bs : Option Nat} {Aw : Option Addr} {cw : Nat} {now safe : List Nt} {ws : List Ch} (h : DirB w d X F bn bs Aw cw now safe ws) :
    w.cell? ⟨d, 0, none⟩ = some X.dk ∧ w.cell? ⟨d, 4, none⟩ = some X.cp ∧ w.cell? ⟨d, 5, none⟩ = some X.al ∧ w.cell? ⟨d, 6, none⟩ = some X.rd ∧ w.cell? ⟨d, 7, none⟩ = some X.rs ∧ ∀ i, w.frozen? ⟨d, i, none⟩ = false :=
  ⟨cell_of_row _ _ _ _ _ _ h.box, cell_of_row _ _ _ _ _ _ h.box, cell_of_row _ _ _ _ _ _ h.box, cell_of_row _ _ _ _ _ _ h.box, cell_of_row _ _ _ _ _ _ h.box, fun i => by simp [World.frozen?, h.box]⟩
end Go.Proofs.Ytcfkepahilioaaa
