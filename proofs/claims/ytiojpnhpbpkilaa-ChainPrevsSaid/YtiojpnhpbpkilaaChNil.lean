/- Layer 35: chains that aren't there: no tokens. -/
import Derived.Test.YtiojpnhpbpkilaaRange
import Derived.Test.YtiojpnhpbpkilaaGrow
import Derived.Test.YtiojpnhpbpkilaaFoot
import Derived.Lib.Hide
import Derived.Below
namespace Go.Proofs.Ytiojpnhpbpkilaa
open Go.RowKit Go.Shelf
attribute [local go_sem] Oper.semAt_some

theorem alloc_keep {W : World} {k : Nat} {o : Obj} (h : W.heap[k]? = some o) (o' : Obj) : (W.alloc o').heap[k]? = some o := (Below.heap_alloc W o' k (Array.getElem?_eq_some_iff.1 h).1).trans h
set_option maxHeartbeats 400000 in
theorem each_nil (lv : Int) (w : World) :
    Calls Try.prog 19 #[.pointer none, .int .i64 lv] w fun e w' => e = .returned (.func (.func 21) #[] #[.pointer (some ⟨w.heap.size, 0, none⟩), .pointer (some ⟨w.heap.size + 1, 0, none⟩)]) ∧
      (w.alloc (.cells #[.pointer none] 27)).alloc (.cells #[.int .i64 lv] 3) = w' := by
  go_enter Try.func19, Try.ntmps19
  go_wp2
  go_ret
  exact ⟨rfl, rfl⟩
set_option maxRecDepth 100000 in
set_option maxHeartbeats 2000000 in
theorem nil_seq (Kp : World → World → Prop) (b1 b2 : Nat) (w0 : World) (h1 : w0.heap[b1]? = some (.cells #[.pointer none] 27)) :
    SeqS Fence.wide 5 Try.prog 21 #[.pointer (some ⟨b1, 0, none⟩), .pointer (some ⟨b2, 0, none⟩)] (fun x : Empty => x.elim) Kp (fun _ => False) (fun xs => xs = []) (fun _ => False) 0 w0 := by
  intro g J Jx W hbl hJ hJx hY h0
  have h1W := (hbl.block b1 (Array.getElem?_eq_some_iff.1 h1).1).trans h1
  have c1 : W.cell? ⟨b1, 0, none⟩ = some (.pointer none) := cell_of_row W b1 0 _ _ _ h1W
  have H0 := Lib.hid h0
  clear h1 h1W hY hJ hJx h0
  refine callsIn_of_wp Try.func21 rfl trivial ?_ rfl
  simp only [Try.ntmps21, List.size_toArray, List.length_cons, List.length_nil, Nat.reduceAdd, Nat.reduceSub, Array.replicate_succ, Array.replicate_zero, List.push_toArray, List.append_toArray, List.nil_append, List.cons_append]
  gi_wp2
  gi_loopw [4] (fun i wr => i = .int .i64 0 ∧ wr = W) (fun _ _ => 0)
  case atStart => exact ⟨rfl, rfl⟩
  case round =>
    obtain ⟨rfl, rfl⟩ := hrel
    gi_wp2
    go_end0
    exact ⟨⟨_, rfl⟩, .inl ⟨[], rfl, H0.out⟩⟩
set_option maxRecDepth 100000 in
set_option maxHeartbeats 4000000 in
theorem split_nil (lv : Int) (w : World) :
    Calls Try.prog 13 #[.pointer none, .int .i64 lv] w fun e w' => e = .returned (.slice none 0 0) ∧ Below w.heap.size w w' := by
  refine (callsIn_wide (n := 6)).1 ?_
  refine callsIn_of_wp_marks Try.func13 rfl trivial ?_ rfl
  simp only [Try.ntmps13, List.size_toArray, List.length_cons, List.length_nil, Nat.reduceAdd, Nat.reduceSub, Array.replicate_succ, Array.replicate_zero, List.push_toArray, List.append_toArray, List.nil_append, List.cons_append]
  obtain ⟨W1, hW1⟩ : ∃ W1, w.alloc (.cells #[.slice none 0 0] 34) = W1 := ⟨_, rfl⟩
  obtain ⟨W2, hW2⟩ : ∃ W2, (W1.alloc (.cells #[.pointer none] 27)).alloc (.cells #[.int .i64 lv] 3) = W2 := ⟨_, rfl⟩
  have HE := Lib.hid (each_nil lv W1)
  rw [hW2] at HE
  have HZ1 : Hid (W1.heap.size = w.heap.size + 1) := by show _ = _; rw [← hW1]; simp
  have HZ2 : Hid (W2.heap.size = w.heap.size + 3) := by show _ = _; rw [← hW2]; simp; exact HZ1.out
  have HC1 : Hid (W2.heap[w.heap.size]? = some (.cells #[.slice none 0 0] 34)) := by
    show _ = _
    rw [← hW2, ← hW1]
    exact alloc_keep (alloc_keep (heap_alloc_new w _) _) _
  have HC2 : Hid (W2.heap[W1.heap.size]? = some (.cells #[.pointer none] 27)) := by
    show _ = _
    rw [← hW2]
    exact alloc_keep (heap_alloc_new W1 _) _
  have HB2 : Hid (Below w.heap.size w W2) := by
    show Below _ _ _
    rw [← hW2, ← hW1]
    exact (((Below.refl _ w).alloc (Nat.le_refl _) _).alloc (by simp) _).alloc (by simp; omega) _
  clear hW2
  gi_wp2_with (refine ⟨trivial, ?_⟩; gi_at_call 19; refine (callsIn_wide.2 HE.out).mono ?_; rintro e w' ⟨rfl, rfl⟩)
  clear hW1 HE
  refine wpIn_rangeFunc_S rfl (by omega) (gf := 21) (lb := #[.pointer (some ⟨W1.heap.size, 0, none⟩), .pointer (some ⟨W1.heap.size + 1, 0, none⟩)]) rfl trivial (enters_of Try.func21 (by kernel_rfl) rfl)
    (nil_seq (fun _ _ => True) W1.heap.size (W1.heap.size + 1) W2 HC2.out)
    (fun r hr => hr.elim) (fun _ _ => trivial) (fun _ _ _ _ _ _ _ _ => trivial) (Below.refl _ _) (fun x => x.elim)
    (fun _ W => W.heap[w.heap.size]? = some (.cells #[.slice none 0 0] 34) ∧ Below w.heap.size w W)
    (fun _ _ _ => False)
    ((ownS_cells (cs := fun _ => #[.slice none 0 0]) (fun h => h)).and (ownS_below (Nat.le_refl _) (by have := HZ2.out; omega) (fun _ h => h.elim)))
    (fun _ _ _ _ _ h _ _ => h)
    ⟨HC1.out, HB2.out⟩
    (fun x => x.elim) ?assign ?body ?done ?stop
  case assign => intro g x; exact x.elim
  case body => rintro g pre x; exact x.elim
  case done =>
    rintro D ys W hD rfl ⟨hc, hb⟩ hK
    have c0 := cell_of_row W w.heap.size 0 _ _ _ hc
    have HKW := Lib.hid hK
    have HBW := Lib.hid hb
    clear hc hb hK
    gi_wp2
    refine ⟨by simp, .inl ⟨_, _, rfl, run_takeDeferred HKW.out, ?_⟩⟩
    exact ⟨_, results_tmp rfl _ _ _, rfl, HBW.out.trans ((Below.refl _ W).grown (grownBy_putObj' W D _) (by have := (Array.getElem?_eq_some_iff.1 HKW.out).1; have := HBW.out.size; omega) (fun k e => by cases e; have := HZ2.out; omega))⟩
  case stop =>
    rintro D cd pre W hD h
    exact h.elim
end Go.Proofs.Ytiojpnhpbpkilaa
