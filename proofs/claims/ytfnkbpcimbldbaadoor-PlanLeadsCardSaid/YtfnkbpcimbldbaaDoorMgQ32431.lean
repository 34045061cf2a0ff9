/- Layer 38: what Merge does with a name. -/
import Derived.Test.YtfnkbpcimbldbaaDoorMgQ32429
import Derived.Deep.CutBlock
namespace Go.Proofs.YtfnkbpcimbldbaaDoor
open Go.RowKit

def nmV (cs : List ByteArray) : List Value := cs.map Value.string
abbrev MTwo (w : World) (base p q r : Nat) (Ac : Option Addr) (cc : Nat) (cs : List ByteArray) (Al : Option Addr) (cl : Nat) (fs : List Fi) : Prop :=
  TwoR w base p q r 40 22 9 32 1 2 (.slice Ac cs.length cc) cs.length (nmV cs) (.slice Al fs.length cl) fs.length (fiCells fs)
abbrev MT (w w' : World) (base p q r : Nat) (Ac : Option Addr) (cc : Nat) (cs : List ByteArray) (Al : Option Addr) (cl : Nat) (fs : List Fi) (Ac' : Option Addr) (cc' : Nat) (cs' : List ByteArray) (Al' : Option Addr) (cl' : Nat) (fs' : List Fi) : Prop :=
  TPost w w' base p q r 40 22 9 32 1 2 (.slice Ac cs.length cc) (.slice Al fs.length cl) (.slice Ac' cs'.length cc') (.slice Al' fs'.length cl') cs'.length fs'.length (nmV cs') (fiCells fs')
/-- What the closure leaves. -/
def MPost (w : World) (base p q r : Nat) (Ac : Option Addr) (cc : Nat) (cs : List ByteArray) (Al : Option Addr) (cl : Nat) (fs : List Fi) (w' : World) (x : List ByteArray) (y : List (ByteArray × List UInt8)) : Prop :=
  ∃ Ac' cc' Al' cl' px, MT w w' base p q r Ac cc cs Al cl fs Ac' cc' (cs ++ x) Al' cl' (fs ++ px) ∧ px.map Fi.key = y ∧ ∀ f ∈ px, Keeps w' (twoS p q r (.slice Ac' (cs ++ x).length cc') (.slice Al' (fs ++ px).length cl')) f.ad f.data ∧ f.data.length ≤ f.cp
section
variable {w V w7 : World} {base p q r : Nat} {Ac Ac' A3 : Option Addr} {cc cc' c3 : Nat} {cs x : List ByteArray} {Al : Option Addr} {cl : Nat} {fs : List Fi}
theorem MPost.of (h : MT w V base p q r Ac cc cs Al cl fs Ac' cc' (cs ++ x) Al cl fs) : MPost w base p q r Ac cc cs Al cl fs V x [] := by
  refine ⟨Ac', cc', Al, cl, [], ?_, rfl, (by intro o ho; cases ho)⟩
  rw [List.append_nil]
  exact h
theorem MPost.put {V0 : World} (f : Fi) (h : MT w V0 base p q r Ac cc cs Al cl fs Ac' cc' (cs ++ x) Al cl fs) (hr : r < w.heap.size) (hb : Below V0.heap.size V0 V)
    (hk : Keeps V (twoS p q r (.slice Ac' (cs ++ x).length cc') (.slice Al fs.length cl)) f.ad f.data) (hc : f.data.length ≤ f.cp)
    (hA : App V base 32 2 (.slice Al fs.length cl) (fs.length + 1) (fiCells fs ++ f.cells) w7 (.slice A3 (fs.length + 1) c3)) : MPost w base p q r Ac cc cs Al cl fs (w7.setCell ⟨q, 0, none⟩ (.slice A3 (fs.length + 1) c3)) x [f.key] := by
  have hr0 := Nat.lt_of_lt_of_le hr h.mod.size
  have hrV := Nat.lt_of_lt_of_le hr0 hb.size
  have t1 := TPost.app h.two.swap hr0 hb hA
  have t2 := TPost.app (h.two.keepN hb).swap hrV (Below.refl _ _) hA
  refine ⟨Ac', cc', A3, c3, [f], ?_, rfl, ?_⟩
  · unfold MT
    rw [fiCells_snoc, @List.length_append _ fs]
    exact h.trans t1.swap
  · intro o' ho'
    rw [List.mem_singleton] at ho'
    subst ho'
    rw [@List.length_append _ fs]
    exact ⟨hk.on t2.swap, hc⟩
end
theorem MT.kept {w V : World} {base p q r : Nat} {Ac : Option Addr} {cc : Nat} {cs : List ByteArray} {Al : Option Addr} {cl : Nat} {fs : List Fi} (hT : MTwo w base p q r Ac cc cs Al cl fs) (hb : Below w.heap.size w V) : MT w V base p q r Ac cc cs Al cl fs Ac cc (cs ++ []) Al cl fs := by
  unfold MT
  rw [List.append_nil]
  exact TPost.below hT hb
end Go.Proofs.YtfnkbpcimbldbaaDoor
/- Layer 38: plan.Merge. -/
namespace Go.Proofs.YtfnkbpcimbldbaaDoor
open Go.RowKit

theorem MPost.comp {w w1 w2 : World} {base p q r : Nat} {Ac Ac' : Option Addr} {cc cc' : Nat} {cs cx : List ByteArray} {Al Al' : Option Addr} {cl cl' : Nat} {fs px : List Fi} {x2 : List ByteArray} {y2 : List (ByteArray × List UInt8)}
    (h : MT w w1 base p q r Ac cc cs Al cl fs Ac' cc' (cs ++ cx) Al' cl' (fs ++ px)) (hp : ∀ f ∈ px, Keeps w1 (twoS p q r (.slice Ac' (cs ++ cx).length cc') (.slice Al' (fs ++ px).length cl')) f.ad f.data ∧ f.data.length ≤ f.cp)
    (k : MPost w1 base p q r Ac' cc' (cs ++ cx) Al' cl' (fs ++ px) w2 x2 y2) : MPost w base p q r Ac cc cs Al cl fs w2 (cx ++ x2) (px.map Fi.key ++ y2) := by
  obtain ⟨A1, c1, A2, c2, p1, ht, rfl, k2⟩ := k
  refine ⟨A1, c1, A2, c2, px ++ p1, ?_, by rw [List.map_append], ?_⟩
  · rw [← List.append_assoc, ← List.append_assoc]
    exact h.trans ht
  · intro o ho
    rw [← List.append_assoc, ← List.append_assoc]
    rcases List.mem_append.1 ho with ho | ho
    · exact ⟨(hp o ho).1.on ht, (hp o ho).2⟩
    · exact k2 o ho
theorem MPost.third {w w1 w2 : World} {base p q r : Nat} {Ac : Option Addr} {cc : Nat} {cs : List ByteArray} {Al : Option Addr} {cl : Nat} {fs : List Fi} {x : List ByteArray} {y : List (ByteArray × List UInt8)} (h : MPost w base p q r Ac cc cs Al cl fs w1 x y) (hm : Mod (oneB r) w1 w2) (hr : w.heap.size ≤ r) : MPost w base p q r Ac cc cs Al cl fs w2 x y := by
  obtain ⟨A1, c1, A2, c2, p1, ht, h1, k2⟩ := h
  exact ⟨A1, c1, A2, c2, p1, ht.third hm hr, h1, fun o ho => ⟨(k2 o ho).1.mod hm (fun k e => .inr (.inr (.inl e))), (k2 o ho).2⟩⟩
end Go.Proofs.YtfnkbpcimbldbaaDoor
