/- Files in memory: a row of names and slices of bytes. -/
import Derived.Test.YtfnkbpcimbldbaaDoorMgQ32410
import Derived.Test.YtfnkbpcimbldbaaDoorMgQ32401
import Derived.Test.YtfnkbpcimbldbaaDoorMgQ32408
namespace Go.Proofs.YtfnkbpcimbldbaaDoor
open Go.RowKit

/-- A file as memory has it: its name, its bytes, where they lie, how many could lie there. -/
structure Fi where
  nm : ByteArray
  data : List UInt8
  ad : Option Addr
  cp : Nat
def Fi.cells (f : Fi) : List Value := [.string f.nm, .slice f.ad f.data.length f.cp]
def fiCells (fs : List Fi) : List Value := (fs.map Fi.cells).flatten
theorem fi_len (fs : List Fi) : (fiCells fs).length = fs.length * 2 := by
  unfold fiCells
  induction fs with
  | nil => rfl
  | cons f l ih => rw [List.map_cons, List.flatten_cons, List.length_append, ih, List.length_cons]; show 2 + _ = _; omega
/-- Files that lie below a block. -/
structure Files (w : World) (B : Nat) (A : Option Addr) (fs : List Fi) : Prop where
  row : Cells w B A (fiCells fs)
  each : ∀ f ∈ fs, Bytes w B f.ad f.data ∧ f.data.length ≤ f.cp
theorem Files.below {w w' : World} {B B' : Nat} {A : Option Addr} {fs : List Fi} (h : Files w B A fs) (hb : Below B' w w') (hB : B ≤ B') : Files w' B A fs := ⟨h.row.below hb hB, fun f hf => ⟨(h.each f hf).1.below hb hB, (h.each f hf).2⟩⟩
theorem Files.more {w : World} {B B' : Nat} {A : Option Addr} {fs : List Fi} (h : Files w B A fs) (hB : B ≤ B') : Files w B' A fs := ⟨h.row.more hB, fun f hf => ⟨(h.each f hf).1.more hB, (h.each f hf).2⟩⟩
theorem fi_at {w : World} {b o : Nat} {fs : List Fi} {k : Nat} {f : Fi} (hc : ∀ j u, (fiCells fs)[j]? = some u → w.cell? ⟨b, o + j, none⟩ = some u) (h : fs[k]? = some f) :
    w.cell? ⟨b, o + k * 2, none⟩ = some (.string f.nm) ∧ w.cell? ⟨b, o + k * 2 + 1, none⟩ = some (.slice f.ad f.data.length f.cp) := by
  have key : ∀ (r : Nat) (u : Value), f.cells[r]? = some u → w.cell? ⟨b, o + (k * 2 + r), none⟩ = some u := fun r u hu => hc _ _ (code_at (rs := fs) (code := Fi.cells) (s := 2) (fun _ _ => rfl) h hu)
  have k0 := key 0 _ rfl
  have k1 := key 1 _ rfl
  simp only [← Nat.add_assoc, Nat.add_zero] at k0 k1
  exact ⟨k0, k1⟩
abbrev fiSh : Sh := .cons .str (.cons (.slice (.int .u8)) .nil)
theorem fi_lies {w : World} {x : List Value} (h : Lies w fiSh x) : ∃ f : Fi, x = f.cells ∧ (Bytes w w.heap.size f.ad f.data ∧ f.data.length ≤ f.cp) ∧ f.nm.size ≤ maxLen := by
  obtain ⟨a, r1, rfl, _, _, ⟨nm, rfl, hn⟩, h1⟩ := h
  obtain ⟨b, r2, rfl, _, _, hb, h2⟩ := h1
  have h3' : r2 = [] := h2
  subst h3'
  have hb2 := hb
  obtain ⟨A, l, c, X, rfl, _, hlc, _⟩ := hb2
  obtain ⟨bs, q1, _, q3⟩ := bytes_of_lies hb
  exact ⟨⟨nm, bs, A, c⟩, by show _ = [Value.string nm, Value.slice A bs.length c]; rw [q1]; rfl, ⟨q3, by show bs.length ≤ c; omega⟩, hn⟩
theorem files_in {w : World} {a : Option Addr} {len cap : Nat} (h : Lies w (.slice fiSh) [.slice a len cap]) : ∃ fs : List Fi, fs.length = len ∧ len ≤ 9223372036854775807 ∧ Files w w.heap.size a fs ∧ ∀ f ∈ fs, f.nm.size ≤ maxLen := by
  obtain ⟨rs, h1, h2, h3, _, h4⟩ := rows_as Fi.cells (fun f => (Bytes w w.heap.size f.ad f.data ∧ f.data.length ≤ f.cp) ∧ f.nm.size ≤ maxLen) h (fun x _ hx => fi_lies hx)
  exact ⟨rs, h1, h2, ⟨h4, fun f hf => (h3 f hf).1⟩, fun f hf => (h3 f hf).2⟩
end Go.Proofs.YtfnkbpcimbldbaaDoor
