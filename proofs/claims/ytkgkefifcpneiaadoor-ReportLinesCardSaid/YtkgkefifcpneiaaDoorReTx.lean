/- Layer 33: Text. -/
import Derived.Test.YtkgkefifcpneiaaDoorReLn
import Derived.Test.YtkgkefifcpneiaaDoorReSu
import Derived.Test.YtkgkefifcpneiaaDoorReBl
import Derived.StillTailTactics
namespace Go.Proofs.YtkgkefifcpneiaaDoor
open Go.RowKit

def lineL (p : Pr) : List UInt8 := (lineS p).data.toList ++ [10]
def textL (l : List Pr) : List UInt8 := (l.map lineL).flatten
theorem textL_snoc (l : List Pr) (x : Pr) : textL (l ++ [x]) = textL l ++ lineL x := by unfold textL; simp
/-- What is known of each pair. -/
def Pr.fine (p : Pr) : Prop := p.one ∧ p.full ∧ p.name.size ≤ 300 ∧ -9223372036854775808 ≤ p.kind ∧ p.kind ≤ 9223372036854775807
theorem line_size {p : Pr} (h : p.fine) : (lineS p).size ≤ 2406 := by
  have h1 := join_le ((lineW p).map (·.data.toList)) (fun x hx => by
    obtain ⟨y, hy, rfl⟩ := List.mem_map.1 hx
    have := lineW_sizes h.2.1 h.2.2.1 y hy
    rw [Array.length_toList]
    exact this)
  rw [List.length_map] at h1
  have h2 := lineW_len p
  show (Lib.join ((lineW p).map (·.data.toList)) [32]).length ≤ _
  omega
theorem lineL_len {p : Pr} (h : p.fine) : (lineL p).length ≤ 2407 := by
  have := line_size h
  unfold lineL
  rw [List.length_append, Array.length_toList]
  show (lineS p).size + 1 ≤ _
  omega
theorem textL_len {l : List Pr} (h : ∀ p ∈ l, p.fine) : (textL l).length ≤ 2407 * l.length := by
  unfold textL
  induction l with
  | nil => simp
  | cons x l ih =>
    rw [List.map_cons, List.flatten_cons, List.length_append, List.length_cons]
    have h1 := ih (fun p hp => h p (by simp [hp]))
    have h2 := lineL_len (h x (by simp))
    omega
theorem byteC_line (p : Pr) (l : List UInt8) : Lib.byteCells l ++ Lib.strCells (lineS p) ++ [.int .u8 10] = Lib.byteCells (l ++ lineL p) := by
  unfold lineL
  rw [Lib.strCells_eq]
  unfold Lib.byteCells
  simp
theorem fresh_builder (w : World) : Lib.IsBuilder 71 5 w.heap.size w.heap.size [] (w.alloc (.cells #[.pointer none, .slice none 0 0] 71)) :=
  .inl ⟨Nat.le_refl _, .slice none 0 0, heap_alloc_new w _, World.ownsRow_nil .., by intro h; cases h⟩
set_option maxRecDepth 100000 in
set_option maxHeartbeats 2000000 in
theorem text33_any (A A2 : Option Addr) (l c c2 : Nat) (ps : List Pr) (B : Nat) (w : World) (hl : ps.length = l) (hm : l ≤ 100) (h1 : ∀ p ∈ ps, p.fine) (hb : Cells w B A (opCells ps)) (hb2 : Cells w B A2 (anCells ps)) (hB : B ≤ w.heap.size) (ht : Tab10 w) :
    Calls Tryd.prog 18 #[.slice A l c, .slice A2 l c2] w fun e w' => e = .returned (.tuple #[.string ⟨(textL ps).toArray⟩, .int .i64 0]) ∧ Below w.heap.size w w' := by
  have HC := Lib.hid hb
  have HC2 := Lib.hid hb2
  have HL := Lib.hid hl
  have H1 := Lib.hid h1
  have HT := Lib.hid ht
  have HBU := Lib.hid (fresh_builder w)
  have hz : (l != l) = false := by simp
  clear hb hb2 h1 ht
  go_enter Tryd.func18, Tryd.ntmps18
  go_wp2
  go_loopg [16] l (fun gk i wr => ∃ k : Nat, k + gk = l ∧ i = .int .i64 k ∧ Lib.IsBuilder 71 5 w.heap.size w.heap.size (Lib.byteCells (textL (ps.take k))) wr ∧ Below w.heap.size w wr)
  case atStart => exact ⟨0, by omega, rfl, HBU.out, (Below.refl _ w).alloc (Nat.le_refl _) _⟩
  case round =>
    obtain ⟨k, hk, rfl, hs, hbw⟩ := hrel
    have HS := Lib.hid hs
    have HB1 := Lib.hid hbw
    clear hs hbw HBU
    by_cases h : k < l
    · obtain ⟨f, hx⟩ : ∃ x, ps[k]? = some x := ⟨_, List.getElem?_eq_getElem (by omega)⟩
      obtain ⟨b, o, rfl, hbB, hc⟩ := HC.out (by rw [opC_len]; omega)
      obtain ⟨b2, o2, rfl, hbB2, hc2⟩ := HC2.out (by rw [anC_len]; omega)
      have HX := Lib.hid hx
      have HF := Lib.hid (H1.out f (List.mem_of_getElem? hx))
      have HCW : Hid (∀ W, Below w.heap.size w W → ∀ (r : Nat) (u : Value), f.op[r]? = some u → W.cell? ⟨b, o + k * 7 + r, none⟩ = some u) := fun W hW r u hu => by
        rw [Nat.add_assoc]
        exact (hW.cell (p := ⟨b, o + (k * 7 + r), none⟩) (by show b < w.heap.size; omega)).trans (op_at hc hx hu)
      have HCW2 : Hid (∀ W, Below w.heap.size w W → ∀ (r : Nat) (u : Value), f.an[r]? = some u → W.cell? ⟨b2, o2 + k * 7 + r, none⟩ = some u) := fun W hW r u hu => by
        rw [Nat.add_assoc]
        exact (hW.cell (p := ⟨b2, o2 + (k * 7 + r), none⟩) (by show b2 < w.heap.size; omega)).trans (an_at hc2 hx hu)
      have hki : (k : Int) < (l : Int) := by omega
      have hw1 : IntKind.i64.wrap ((k : Int) + 1) = (k : Int) + 1 := IntWalk.i64_in _ (by omega)
      have HTL : Hid ((textL (ps.take k)).length ≤ 240700) := by
        have := textL_len (l := ps.take k) (fun p hp => H1.out p (List.mem_of_mem_take hp))
        rw [List.length_take] at this
        show _ ≤ _
        omega
      have HTS : Hid (textL (ps.take (k + 1)) = textL (ps.take k) ++ lineL f) := by show _ = _; rw [takeP_snoc hx, textL_snoc]
      generalize textL (ps.take k) = tl at *
      have c0 := HCW.out wr HB1.out 0 _ rfl
      have c1 := HCW.out wr HB1.out 1 _ rfl
      have c2 := HCW.out wr HB1.out 2 _ rfl
      have c3 := HCW.out wr HB1.out 3 _ rfl
      have c4 := HCW.out wr HB1.out 4 _ rfl
      have c5 := HCW.out wr HB1.out 5 _ rfl
      have c6 := HCW.out wr HB1.out 6 _ rfl
      rw [Nat.add_zero] at c0
      clear hc hx hbB hc2 hbB2
      go_upto_region 7 with (first
        | (refine wpList_store_row rfl 36 (.tmp 8) (.tmp 20) rfl wr.heap.size rfl 36 #[.int .i64 0, .string ⟨#[]⟩, .slice none 0 0, .int .i64 0, .slice none 0 0, .int .i64 0, .int .u8 0] #[.int .i64 f.kind, .string f.name, f.o2, f.o3, f.o4, f.o5, f.o6] rfl (heap_alloc_new wr _) opInfo33 rfl (by rw [Array.all_eq_true_iff_forall_mem]; exact fun v hv => Pr.one_op HF.out.1 v (by simpa using hv)) (fun W2 hW2 hM2 => ?_); have HW2 := Lib.hid hW2; have HM2 : Hid (Mod (oneB wr.heap.size) wr W2) := ((Mod.refl _ wr).alloc _).then_ hM2; clear hW2 hM2))
      have HB2 : Hid (Below w.heap.size w W2) := HM2.out.below HB1.out HB1.out.size (fun q hq => by have : q = wr.heap.size := hq; have := HB1.out.size; omega)
      clear c0 c1 c2 c3 c4 c5 c6
      have d0 := cell_of_row _ _ 0 _ _ _ HW2.out
      have d1 := cell_of_row _ _ 1 _ _ _ HW2.out
      have d2 := cell_of_row _ _ 2 _ _ _ HW2.out
      have d3 := cell_of_row _ _ 3 _ _ _ HW2.out
      have d4 := cell_of_row _ _ 4 _ _ _ HW2.out
      have d5 := cell_of_row _ _ 5 _ _ _ HW2.out
      have d6 := cell_of_row _ _ 6 _ _ _ HW2.out
      have c0 := HCW2.out W2 HB2.out 0 _ rfl
      have c1 := HCW2.out W2 HB2.out 1 _ rfl
      have c2 := HCW2.out W2 HB2.out 2 _ rfl
      have c3 := HCW2.out W2 HB2.out 3 _ rfl
      have c4 := HCW2.out W2 HB2.out 4 _ rfl
      have c5 := HCW2.out W2 HB2.out 5 _ rfl
      have c6 := HCW2.out W2 HB2.out 6 _ rfl
      rw [Nat.add_zero] at c0
      have HB2D : Hid (Below w.heap.size w W2.drew) := HB2.out.drew
      have HS2 : Hid (Lib.IsBuilder 71 5 w.heap.size w.heap.size (Lib.byteCells tl) W2.drew) := isBuilder_keep HS.out HM2.out.drew (fun q hq e => by have : q = wr.heap.size := e; omega)
      clear HS
      go_still_tail 5, (by kernel_rfl)
      change wpList _ _ _ _ _ W2.drew
      clear d0 d1 d2 d3 d4 d5 d6 c0 c1 c2 c3 c4 c5 c6
      have HLZ := Lib.hid (line_size HF.out)
      generalize W2.drew = W3 at *
      go_wp2_with ((first
        | (go_at_call 16; refine (line33_any f W3 HF.out.2.1 HF.out.2.2.1 HF.out.2.2.2 (tab_below HT.out HB2D.out)).mono ?_; rintro e W4 ⟨rfl, hb4⟩; have HB4 : Hid (Below w.heap.size w W4) := HB2D.out.trans (hb4.mono HB2D.out.size); have HS4 := Lib.hid (isBuilder_keep HS2.out (Mod.of_below hb4) (fun _ _ h => h)); clear hb4 HS2)
        | (go_at_call 30; refine (wstr_any w.heap.size w.heap.size (Lib.byteCells tl) (lineS f) W4 HS4.out (by rw [Lib.byteCells_length]; have := HTL.out; have := HLZ.out; omega) HB4.out.size).mono ?_; rintro e W5 ⟨rfl, hs5, hb5⟩; have HB5 : Hid (Below w.heap.size w W5) := HB4.out.trans hb5; have HS5 := Lib.hid hs5; clear hs5 hb5 HS4)
        | (go_at_call 31; refine (wbyte_any w.heap.size w.heap.size (Lib.byteCells tl ++ Lib.strCells (lineS f)) 10 W5 (.inr HS5.out) (by rw [List.length_append, Lib.byteCells_length, Lib.strCells_length]; have := HTL.out; have := HLZ.out; omega) HB5.out.size).mono ?_; rintro e W6 ⟨rfl, hs6, hb6⟩; rw [byteC_line] at hs6; have HB6 : Hid (Below w.heap.size w W6) := HB5.out.trans hb6; have HS6 := Lib.hid hs6; clear hs6 hb6 HS5)))
      go_roundg (gk - 1)
      case measure => omega
      case rel => exact ⟨k + 1, by omega, by go_num, by rw [HTS.out]; exact .inr HS6.out, HB6.out⟩
    · obtain rfl : k = l := by omega
      have ht : ps.take k = ps := List.take_of_length_le (by have := HL.out; omega)
      rw [ht] at HS
      go_wp2_with (go_at_call 32; refine (bstring_any w.heap.size w.heap.size (textL ps) wr HS.out HB1.out.size).mono ?_; rintro e W6 ⟨rfl, hb6⟩; have HB6 : Hid (Below w.heap.size w W6) := HB1.out.trans hb6; clear hb6)
      go_ret2
      exact ⟨rfl, HB6.out⟩
end Go.Proofs.YtkgkefifcpneiaaDoor
