/- Layer 5: a call of both. -/
import Derived.Test.YtbfaefnlhcdnhaaNsP
namespace Go.Proofs.Ytbfaefnlhcdnhaa
open Go.RowKit Go.Maps

/-- Both directories, in the same state. -/
structure BothN (w : World) (d r : Nat) (F G : Nat → Prop) (s : Nst) : Prop where
  dir : DirS w d F s.now s.safe s.ws
  ref : RefS w r G s.now s.past
  apart : ∀ k, F k → ¬ G k
  ok : s.Ok
theorem DirS.lt {w : World} {d : Nat} {F : Nat → Prop} {now safe : List Nt} {ws : List Ch} (h : DirS w d F now safe ws) : ∀ k, F k → k < w.heap.size := by
  obtain ⟨_, _, _, _, h⟩ := h
  exact h.lt
theorem RefS.lt {w : World} {r : Nat} {G : Nat → Prop} {now : List Nt} {past : List (List Nt)} (h : RefS w r G now past) : ∀ k, G k → k < w.heap.size := by
  obtain ⟨_, _, _, _, _, h⟩ := h
  exact h.lt
/-- What both leave behind a call of each. -/
structure Went (w w' : World) (d r : Nat) (F G : Nat → Prop) (s : Nst) (F' G' : Nat → Prop) : Prop where
  both : BothN w' d r F' G' s
  mod : Mod (orS F G) w w'
  nf : ∀ k, F' k → F k ∨ w.heap.size ≤ k
  ng : ∀ k, G' k → G k ∨ w.heap.size ≤ k
theorem went_of {w W w5 V w7 : World} {d r : Nat} {F G F' G' : Nat → Prop} {s0 s : Nst} (h : BothN w d r F G s0) (hW : Mod noB w W) (hd : DirS w5 d F' s.now s.safe s.ws) (hst : StepF F F' W w5) (hV : Mod noB w5 V) (hr : RefS w7 r G' s.now s.past) (hst2 : StepF G G' V w7) (hok : s.Ok) : Went w w7 d r F G s F' G' := by
  have h1 : Mod F w w5 := (hW.mono (T := F) (fun _ h => h.elim)).then_ hst.mod
  have h2 : Mod G w5 w7 := (hV.mono (T := G) (fun _ h => h.elim)).then_ hst2.mod
  have hf : ∀ k, F' k → F k ∨ w.heap.size ≤ k := fun k hk => by
    rcases hst.new k hk with h | h
    · exact .inl h
    · exact .inr (Nat.le_trans hW.size h)
  have hfg : ∀ k, F' k → ¬ G k := fun k hk hg => by
    rcases hf k hk with h' | h'
    · exact h.apart k h' hg
    · have := h.ref.lt k hg; omega
  refine ⟨⟨hd.keep h2 hfg, hr, fun k hk hg => ?_, hok⟩, (h1.mono (T := orS F G) (fun k hk => .inl hk)).then_ (h2.mono (T := orS F G) (fun k hk => .inr hk)), hf, fun k hk => ?_⟩
  · rcases hst2.new k hg with h' | h'
    · exact hfg k hk h'
    · have := hd.lt k hk
      have := hV.size
      omega
  · rcases hst2.new k hk with h' | h'
    · exact .inl h'
    · exact .inr (Nat.le_trans h1.size (Nat.le_trans hV.size h'))
theorem Nst.ws_le (s : Nst) : s.safe.length + s.ws.length + s.pre ≤ s.many := Nat.le_refl _
def pickS (E : Int) (s : Nst) (c : Ch) : Nst := if E = 0 then s.more c else s
def opN (s : Nst) (kind : Int) (a b : ByteArray) (n : Int) : Nst :=
  if kind = 0 then pickS (crE s.now a) s ⟨noN, a, n⟩
  else if kind = 1 then pickS (rnE s.now a b) s ⟨a, b, 0⟩
  else if kind = 2 then pickS (rmE s.now a) s ⟨a, noN, 0⟩
  else if kind = 3 then s.sync else s.crash n
theorem opN_many {s : Nst} (h : s.Ok) (kind : Int) (a b : ByteArray) (n : Int) : (opN s kind a b n).many ≤ s.many + 1 := by
  have hp : ∀ (E : Int) (c : Ch), (pickS E s c).many ≤ s.many + 1 := fun E c => by
    unfold pickS
    split
    · rw [Nst.many_more]; omega
    · omega
  unfold opN
  split
  · exact hp _ _
  · split
    · exact hp _ _
    · split
      · exact hp _ _
      · split
        · have := h.many_sync; omega
        · have := h.many_crash n; omega
theorem ch_pair {w5 w7 : World} {d r : Nat} {F' G' : Nat → Prop} {s : Nst} {E : Int} {c : Ch} {L : List Nt} (hd : DirS w5 d F' (chN E s.now c) s.safe (chW E s.ws c)) (hr : RefS w7 r G' (chL E s.now L) (chP E s.now s.past)) (hL : E = 0 → L = (s.more c).now) :
    DirS w5 d F' (pickS E s c).now (pickS E s c).safe (pickS E s c).ws ∧ RefS w7 r G' (pickS E s c).now (pickS E s c).past := by
  unfold pickS
  by_cases h : E = 0
  · unfold chN chW at hd
    unfold chL chP at hr
    rw [if_pos h] at hr ⊢
    rw [if_pos h] at hd hr
    rw [if_pos h] at hd
    rw [hL h] at hr
    rw [Nst.now_more] at hr ⊢
    exact ⟨hd, hr⟩
  · unfold chN chW at hd
    unfold chL chP at hr
    rw [if_neg h] at hr ⊢
    rw [if_neg h] at hd hr
    rw [if_neg h] at hd
    exact ⟨hd, hr⟩
theorem row4_cells {w : World} {g : Nat} {t : TypeId} {a b c d : Value} (h : w.heap[g]? = some (.cells #[a, b, c, d] t (0, 0))) :
    w.cell? ⟨g, 0, none⟩ = some a ∧ w.cell? ⟨g, 1, none⟩ = some b ∧ w.cell? ⟨g, 2, none⟩ = some c ∧ w.cell? ⟨g, 3, none⟩ = some d :=
  ⟨cell_of_row w g 0 _ _ _ h, cell_of_row w g 1 _ _ _ h, cell_of_row w g 2 _ _ _ h, cell_of_row w g 3 _ _ _ h⟩
end Go.Proofs.Ytbfaefnlhcdnhaa
