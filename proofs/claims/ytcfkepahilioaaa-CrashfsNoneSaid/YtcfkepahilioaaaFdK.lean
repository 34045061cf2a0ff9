/- Layer 6 (a directory inside a file system): a directory in memory; a change that waits. -/
import Derived.Test.YtcfkepahilioaaaNdM
import Derived.Test.YtcfkepahilioaaaLay
import Derived.Sort.KeysCollected
namespace Go.Proofs.Ytcfkepahilioaaa
open Go.RowKit Go.Maps

theorem keys_dirD (l : List Nt) : strKeys (dirD l) = l.map fun e => e.nm.data.toList := by
  show (List.map (fun e => (kS e.nm, vD e.id)) l).map (fun p => strOf p.fst) = _
  rw [List.map_map]
  rfl
theorem le_less (a b : List UInt8) : decide (a ≤ b) = !Op.bytesLess b a := by
  rw [bytesLess_eq]
  by_cases h : b < a
  · rw [decide_eq_true h, decide_eq_false (by intro h2; exact h2 h)]; rfl
  · rw [decide_eq_false h, decide_eq_true (show a ≤ b from h)]; rfl
theorem sort_names {l : List Nt} (h : Ris Nt.nm l) {ss : List (List UInt8)} (hp : ss.Perm (strKeys (dirD l))) : ss.mergeSort (fun x y => decide (x ≤ y)) = l.map fun e => e.nm.data.toList := by
  rw [keys_dirD] at hp
  refine List.Perm.eq_of_pairwise (le := fun x y => decide (x ≤ y) = true) (fun a b _ _ h1 h2 => ?_) ?_ ?_ ((List.mergeSort_perm _ _).trans hp)
  · rw [le_less] at h1 h2
    simp only [Bool.not_eq_true'] at h1 h2
    exact bl_total _ _ h2 h1
  · refine List.pairwise_mergeSort (fun a b c h k => ?_) (fun a b => ?_) ss
    · simp only [decide_eq_true_eq] at h k ⊢
      exact List.le_trans h k
    · simp only [Bool.or_eq_true, decide_eq_true_eq]
      exact List.le_total a b
  · rw [List.pairwise_map]
    refine h.imp fun {a b} hab => ?_
    rw [le_less, ← toList_data, ← toList_data]
    rw [show Op.bytesLess b.nm.toList a.nm.toList = false from bl_asymm _ _ hab]
    rfl
/-- A map in memory, or none. -/
def MapO (w : World) (o : Option Nat) (l : List Nt) : Prop := (o = none ∧ l = []) ∨ ∃ b, o = some b ∧ MapN w b l
theorem MapO.keep {w w' : World} {o : Option Nat} {l : List Nt} {S : Nat → Prop} (h : MapO w o l) (hm : Mod S w w') (hS : ∀ b, o = some b → ¬ S b) : MapO w' o l := by
  rcases h with h | ⟨b, rfl, h⟩
  · exact .inl h
  · exact .inr ⟨b, rfl, h.keep hm (hS b rfl)⟩
/-- What a file system has beside its directory. -/
structure FsX where
  dk : Value
  cp : Value
  al : Value
  rd : Value
  rs : Value
/-- A file system's cells. -/
def fsC (X : FsX) (bn bs : Option Nat) (Aw : Option Addr) (n cw : Nat) : Array Value := #[X.dk, .map bn, .map bs, .slice Aw n cw, X.cp, X.al, X.rd, X.rs]
/-- A directory in memory: what is now, what is safe, the changes that wait; F: its blocks. -/
structure DirB (w : World) (d : Nat) (X : FsX) (F : Nat → Prop) (bn bs : Option Nat) (Aw : Option Addr) (cw : Nat) (now safe : List Nt) (ws : List Ch) : Prop where
  box : w.heap[d]? = some (.cells (fsC X bn bs Aw ws.length cw) 71 (0, 0))
  now : MapO w bn now
  safe : MapO w bs safe
  row : w.ownsRow 0 103 3 (.slice Aw ws.length cw) ws.length (chCells ws)
  fd : F d
  fn : ∀ b, bn = some b → F b
  fs : ∀ b, bs = some b → F b
  fw : ∀ b, ownS (.slice Aw ws.length cw) b → F b
  ne : ∀ b, bn = some b → bs ≠ some b
  lt : ∀ k, F k → k < w.heap.size
def DirS (w : World) (d : Nat) (X : FsX) (F : Nat → Prop) (now safe : List Nt) (ws : List Ch) : Prop := ∃ bn bs Aw cw, DirB w d X F bn bs Aw cw now safe ws
/-- Of the old blocks those of F alone may have changed; F' has new ones beside. -/
structure StepF (F F' : Nat → Prop) (w w' : World) : Prop where
  mod : Mod F w w'
  new : ∀ k, F' k → F k ∨ w.heap.size ≤ k
variable {X : FsX}
theorem DirB.keep {w w' : World} {d : Nat} {F S : Nat → Prop} {bn bs : Option Nat} {Aw : Option Addr} {cw : Nat} {now safe : List Nt} {ws : List Ch} (h : DirB w d X F bn bs Aw cw now safe ws) (hm : Mod S w w') (hS : ∀ k, F k → ¬ S k) : DirB w' d X F bn bs Aw cw now safe ws :=
  ⟨hm.keep h.box (hS d h.fd), h.now.keep hm (fun b hb => hS b (h.fn b hb)), h.safe.keep hm (fun b hb => hS b (h.fs b hb)), own_keep h.row hm (fun k hk => hS k (h.fw k hk)), h.fd, h.fn, h.fs, h.fw, h.ne, fun k hk => Nat.lt_of_lt_of_le (h.lt k hk) hm.size⟩
theorem DirS.keep {w w' : World} {d : Nat} {F S : Nat → Prop} {now safe : List Nt} {ws : List Ch} (h : DirS w d X F now safe ws) (hm : Mod S w w') (hS : ∀ k, F k → ¬ S k) : DirS w' d X F now safe ws := by
  obtain ⟨bn, bs, Aw, cw, h⟩ := h
  exact ⟨bn, bs, Aw, cw, h.keep hm hS⟩
theorem DirB.cells {w : World} {d : Nat} {F : Nat → Prop} {bn bs : Option Nat} {Aw : Option Addr} {cw : Nat} {now safe : List Nt} {ws : List Ch} (h : DirB w d X F bn bs Aw cw now safe ws) :
    w.cell? ⟨d, 1, none⟩ = some (.map bn) ∧ w.cell? ⟨d, 2, none⟩ = some (.map bs) ∧ w.cell? ⟨d, 3, none⟩ = some (.slice Aw ws.length cw) ∧ w.frozen? ⟨d, 1, none⟩ = false ∧ w.frozen? ⟨d, 2, none⟩ = false ∧ w.frozen? ⟨d, 3, none⟩ = false :=
  ⟨cell_of_row _ _ _ _ _ _ h.box, cell_of_row _ _ _ _ _ _ h.box, cell_of_row _ _ _ _ _ _ h.box, by simp [World.frozen?, h.box], by simp [World.frozen?, h.box], by simp [World.frozen?, h.box]⟩
theorem chElem : Elem Try.prog 67 103 (.agg #[.string ⟨#[]⟩, .string ⟨#[]⟩, .int .i64 0]) 3 40 := Elem.of Try.underlying67 (by kernel_rfl) (by kernel_rfl) (by omega)
theorem chCells_snoc (l : List Ch) (x : Ch) : chCells (l ++ [x]) = chCells l ++ x.cells := by unfold chCells; simp
end Go.Proofs.Ytcfkepahilioaaa
