/- Layer 35: Split: all tokens by chains, as a row. -/
import Derived.Test.YtglbmghpkipipaaCkIt
import Derived.Maps.AppendAt
namespace Go.Proofs.Ytglbmghpkipipaa
open Go.RowKit Go.Shelf
attribute [local go_sem] Oper.semAt_some

set_option maxRecDepth 100000 in
set_option maxHeartbeats 4000000 in
theorem csplit_any (g g0 : Nat) (A : Option Addr) (l c : Nat) (bs : List UInt8) (lv : Int) (B : Nat) (w : World) (hl : bs.length = l) (hm : l ≤ 2000) (hb : Bytes w B A bs) (hB : B ≤ w.heap.size) (hch : LCh w g g0 A l c bs) :
    Calls Try.prog 11 #[.pointer (some ⟨g, 0, none⟩), .int .i64 lv] w fun e w' => ∃ A' c', e = .returned (.slice A' (toks bs lv 0).length c') ∧ Cells w' w'.heap.size A' ((toks bs lv 0).map tkC).flatten ∧ Below w.heap.size w w' := by
  refine (callsIn_wide (n := 6)).1 ?_
  refine callsIn_of_wp_marks Try.func11 rfl trivial ?_ rfl
  simp only [Try.ntmps11, List.size_toArray, List.length_cons, List.length_nil, Nat.reduceAdd, Nat.reduceSub, Array.replicate_succ, Array.replicate_zero, List.push_toArray, List.append_toArray, List.nil_append, List.cons_append]
  have hlen := toks_few bs lv
  have hgl := (Array.getElem?_eq_some_iff.1 hch.1).1
  have hg0l := (Array.getElem?_eq_some_iff.1 hch.2).1
  obtain ⟨W1, hW1⟩ : ∃ W1, w.alloc (.cells #[.slice none 0 0] 24) = W1 := ⟨_, rfl⟩
  obtain ⟨W2, hW2⟩ : ∃ W2, (W1.alloc (.cells #[.pointer (some ⟨g, 0, none⟩)] 26)).alloc (.cells #[.int .i64 lv] 3) = W2 := ⟨_, rfl⟩
  have HE := Lib.hid (ceach_any g lv W1)
  rw [hW2] at HE
  have hz1 : W1.heap.size = w.heap.size + 1 := by rw [← hW1]; simp
  have hz2 : W2.heap.size = w.heap.size + 3 := by rw [← hW2]; simp; exact hz1
  have hb2 : Below w.heap.size w W2 := by
    rw [← hW2, ← hW1]
    exact (((Below.refl _ w).alloc (Nat.le_refl _) _).alloc (by simp) _).alloc (by simp; omega) _
  have hx1 : W2.heap[W1.heap.size]? = some (.cells #[.pointer (some ⟨g, 0, none⟩)] 26) := by
    rw [← hW2]
    exact alloc_keep (heap_alloc_new W1 _) _
  have hx2 : W2.heap[W1.heap.size + 1]? = some (.cells #[.int .i64 lv] 3) := by
    rw [← hW2]
    have h := heap_alloc_new (W1.alloc (.cells #[.pointer (some ⟨g, 0, none⟩)] 26)) (.cells #[.int .i64 lv] 3)
    rwa [World.size_alloc] at h
  have bO : Boxed W2 w.heap.size 24 (.slice none 0 0) := by
    rw [← hW2]
    exact ((show Boxed W1 w.heap.size 24 (.slice none 0 0) by rw [← hW1]; exact Boxed.new w _ _).alloc _).alloc _
  have hseq : SeqStopsK Fence.wide 5 Try.prog 22 #[.pointer (some ⟨W1.heap.size, 0, none⟩), .pointer (some ⟨W1.heap.size + 1, 0, none⟩)] (fun t : Tk => #[tkV t]) (KpB w.heap.size w.heap.size) (fun xs => xs = toks bs lv 0) (fun pre => pre <+: toks bs lv 0) 4001 W2 :=
    ceach_seq w.heap.size w.heap.size W1.heap.size (W1.heap.size + 1) g g0 A l c bs lv W2 hl hm ((hb.below (hb2.mono hB) (Nat.le_refl _)).more hB) (by omega) (by omega) (by omega) (by omega) (by omega) (by omega) (by rw [ownOf_box bO]; rfl) (hch.below hb2) hx1 hx2
  obtain ⟨L, hL⟩ : ∃ L, toks bs lv 0 = L := ⟨_, rfl⟩
  rw [hL] at hseq hlen ⊢
  have HZ2 := Lib.hid hz2
  clear hW2 hx1 hx2 hL hch hb hz1 hz2
  gi_wp2_with (refine ⟨trivial, ?_⟩; gi_at_call 8; refine (callsIn_wide.2 HE.out).mono ?_; rintro e w' ⟨rfl, rfl⟩)
  have hz2 := HZ2.out
  clear hW1 HE
  refine wpIn_rangeFunc_ownH rfl (by omega) (gf := 22) (lb := #[.pointer (some ⟨W1.heap.size, 0, none⟩), .pointer (some ⟨W1.heap.size + 1, 0, none⟩)]) rfl trivial (enters_of Try.func22 (by kernel_rfl) rfl) hseq
    (fun h k => h.trans k) (fun W l o o' hl ho hc _ => KpB.putObj W l o o' (by omega) (by omega) ho hc) (Below.refl _ _) (fun _ => rfl)
    (fun pre W => (∃ v, Boxed W w.heap.size 24 v ∧ W.ownsRow w.heap.size 32 3 v pre.length (pre.map tkC).flatten ∧ True) ∧ Below w.heap.size w W)
    (fun _ _ _ => False)
    (OwnFrom.and (Own.from (holdsRow_own w.heap.size w.heap.size 24 32 3 (fun pre : List Tk => pre.length) (fun pre => (pre.map tkC).flatten) (fun _ _ => True)) _) (ownFrom_below (Nat.le_refl _) (by omega)))
    (fun _ _ _ _ _ h _ _ => h)
    ⟨⟨_, bO, World.ownsRow_nil _ _ _ _, trivial⟩, hb2⟩
    (fun t a' W => ∃ Bx, W.heap[Bx]? = some (.cells #[.int .u8 (t.1.toNat : Int), .int .i64 (t.2.1 : Int), .int .i64 (t.2.2 : Int)] 32) ∧ a' = { tmps := #[.pointer (some ⟨g, 0, none⟩), .int .i64 lv, undef, undef, .slice none 0 0, .pointer (some ⟨w.heap.size, 0, none⟩), .pointer (some ⟨Bx, 0, none⟩), .pointer (some ⟨g, 0, none⟩), .int .i64 lv, .func (.func 22) #[] #[.pointer (some ⟨W1.heap.size, 0, none⟩), .pointer (some ⟨W1.heap.size + 1, 0, none⟩)], tkV t, undef, undef, undef, undef, undef], defers := [] })
    (fun t a' _ X Y row hs hg hr => by
      obtain ⟨Bx, h1, h2⟩ := hs
      refine ⟨Bx, (hg.block Bx (Array.getElem?_eq_some_iff.1 h1).1 (fun e => ?_)).trans h1, h2⟩
      obtain ⟨_, o, ho, hc⟩ := hr Bx e.symm
      rw [h1] at ho; cases ho; cases hc)
    ?assign ?body ?done ?stop
  case assign =>
    rintro gg pre ⟨tb, tn, td⟩ W K hi hK
    simp only [tkV]
    gi_wp2
    obtain ⟨⟨v, hv, hrow, _⟩, hB⟩ := hi
    exact hK _ _ ((KeepsOthers.alloc _ _).from _) (kpb_alloc _ hB.size hv.lt) ⟨⟨v, hv.alloc _, hrow.alloc _, trivial⟩, hB.alloc hB.size _⟩ ⟨W.heap.size, heap_alloc_new W _, rfl⟩
  case body =>
    rintro gg pre ⟨tb, tn, td⟩ a' W hl ⟨r, hr⟩ ⟨⟨v, hv, hrow, _⟩, hB⟩ ⟨Bx, hx, rfl⟩ hlt
    have hc := hv.cell
    have k0 : W.cell? ⟨Bx, 0, none⟩ = some (.int .u8 (tb.toNat : Int)) := cell_of_row W _ 0 _ _ _ hx
    have k1 : W.cell? ⟨Bx, 1, none⟩ = some (.int .i64 (tn : Int)) := cell_of_row W _ 1 _ _ _ hx
    have k2 : W.cell? ⟨Bx, 2, none⟩ = some (.int .i64 (td : Int)) := cell_of_row W _ 2 _ _ _ hx
    clear hx
    gi_wp2_with (gi_at_builtin; refine wpListIn_app _ tokElem rfl _ _ rfl w.heap.size v pre.length _ rfl (hrow.alloc _) (W.heap.size + 1) (some ⟨W.heap.size, 0, none⟩) 1 1 (tkC (tb, tn, td)) rfl rfl (tkC_cells W (tb, tn, td)) (tkC_one _) (by unfold maxLen; omega) (by omega) (by have := hB.size; simp; omega) ?_; intro A' c' w1 hap; obtain ⟨hv1, hv2, hr2, hk2, hb2, hkp⟩ := kpb_append hv hrow hB.size (Nat.le_refl _) hap; have hc1 := hv1.cell; have hf1 := hv1.frozen)
    exact ⟨hk2.from _, hkp, ⟨_, hv2, by simpa using hr2, trivial⟩, hB.trans hb2⟩
  case done =>
    rintro D ys W hD rfl ⟨⟨v, hv, hrow, _⟩, hB⟩ hK
    have hc := hv.cell
    obtain ⟨A', c', rfl⟩ := own_form' hrow
    have HR := Lib.hid hrow
    have HKW := Lib.hid hK
    have HBW := Lib.hid hB
    clear hrow hK hB
    gi_wp2
    refine ⟨by simp, .inl ⟨_, _, rfl, run_takeDeferred HKW.out, ?_⟩⟩
    exact ⟨_, results_tmp rfl _ _ _, A', c', rfl, cells_of_own7 (ownsRow_putObj HR.out _ HKW.out rfl), HBW.out.trans ((Below.refl _ W).grown (grownBy_putObj' W D _) (by have := (Array.getElem?_eq_some_iff.1 HKW.out).1; have := HBW.out.size; omega) (fun k e => by cases e; omega))⟩
  case stop =>
    rintro D cc pre W _ _ h _
    exact h.elim
end Go.Proofs.Ytglbmghpkipipaa
