/- Layer 10: the candidates, as an iterator tells them. -/
import Derived.Test.YtkikgidmioofaaaGreatMgB21
import Derived.Test.YtkikgidmioofaaaGreatMgB14
import Derived.Laws.Cover3
import Derived.Stop.BytesEq
import Derived.Sort.QuietIn
import Derived.Lib.Hide
import Derived.Below
namespace Go.Proofs.YtkikgidmioofaaaGreat
open Go.RowKit Go.Shelf
attribute [local go_sem] Oper.semAt_some

/-- May a match begin there? -/
def begM (l : Nat) (a : Int) : Bool := decide (0 ≤ a) && decide (a ≤ (l : Int) - 3)
set_option maxHeartbeats 400000 in
theorem begins_any (A : Option Addr) (l c : Nat) (a : Int) (w : World) (hm : l ≤ 1099511627776) :
    Calls Tryz.prog 115 #[.slice A l c, .int .i64 a] w fun e w' => e = .returned (.bool (begM l a)) ∧ w = w' := by
  by_cases h0 : 0 ≤ a
  · have HB : Hid (begM l a = decide (a ≤ (l : Int) - 3)) := by show _ = _; rw [begM, decide_eq_true h0, Bool.true_and]
    have hd : decide (0 ≤ a) = true := decide_eq_true h0
    clear h0
    go_enter Tryz.func115, Tryz.ntmps115
    go_wp2
    go_ret
    exact ⟨by rw [HB.out]; rfl, rfl⟩
  · have HB : Hid (begM l a = false) := by show _ = _; rw [begM, decide_eq_false h0, Bool.false_and]
    have hd : decide (0 ≤ a) = false := decide_eq_false h0
    clear h0
    go_enter Tryz.func115, Tryz.ntmps115
    go_wp2
    go_ret
    exact ⟨by rw [HB.out]; rfl, rfl⟩
/-- The cells of all blocks but those of S stay. -/
def KeepC (S : Nat → Prop) (W W' : World) : Prop := ∀ k o, W.heap[k]? = some o → o.isCells = true → ¬ S k → W'.heap[k]? = some o
theorem KeepC.refl (S : Nat → Prop) (W : World) : KeepC S W W := fun _ _ h _ _ => h
theorem KeepC.trans {S : Nat → Prop} {A B C : World} (h : KeepC S A B) (k : KeepC S B C) : KeepC S A C := fun j o hj ho hs => k j o (h j o hj ho hs) ho hs
theorem KeepC.cell {S : Nat → Prop} {W W' : World} {a : Addr} {v : Value} (h : KeepC S W W') (hc : W.cell? a = some v) (hs : ¬ S a.block) : W'.cell? a = some v := by
  obtain ⟨o, ho, hi⟩ := cells_of_cell hc
  exact (World.cell?_of_block ((h _ o ho hi hs).trans ho.symm)).trans hc
theorem KeepC.putObj (S : Nat → Prop) (W : World) (l : Nat) (o o' : Obj) (ho : W.heap[l]? = some o) (hc : o.isCells = false) : KeepC S W (W.putObj l o') := fun k p hk hp _ => by
  by_cases h : k = l
  · rw [h, ho] at hk; cases hk; rw [hc] at hp; cases hp
  · exact (World.putObj_heap_other h).trans hk
theorem KeepC.set {S : Nat → Prop} {W : World} (a : Addr) (v : Value) (h : S a.block) : KeepC S W (W.setCell a v) := fun k _ hk _ hs => (Below.heap_setCell W a v k (fun e => hs (by rw [e]; exact h))).trans hk
theorem begB_yes {l : Nat} {a : Int} (h : begM l a = true) : 0 ≤ a ∧ a + 3 ≤ (l : Int) := by
  unfold begM at h
  rw [Bool.and_eq_true, decide_eq_true_eq, decide_eq_true_eq] at h
  omega
theorem begB_no {bs : List UInt8} {l : Nat} {a : Int} (hl : bs.length = l) (h : begM l a = false) : cands bs a = [] := by
  unfold begM at h
  rw [Bool.and_eq_false_iff, decide_eq_false_iff_not, decide_eq_false_iff_not] at h
  rw [cands, if_neg (by omega)]
theorem cands_at {bs : List UInt8} {n : Nat} (h : n + 3 ≤ bs.length) : cands bs (n : Int) = candN bs n (min n 32768) := by
  rw [cands, if_pos (by omega)]
  simp
theorem abidesDrewN {α : Type} {B : Nat} {J : List α → World → Prop} (h : AbidesS B (fun _ => False) J) {s : List α} {W : World} (hj : J s W) (n : Nat) : J s (W.drewN n) :=
  h s W _ none hj ⟨rfl, rfl, rfl, Nat.le_refl _, fun _ _ _ => rfl⟩ (fun r e => by cases e)
theorem cell_alloc_l {W : World} {a : Addr} {v : Value} (o : Obj) (h : W.cell? a = some v) : (W.alloc o).cell? a = some v := cell_kept h (World.grownBy_alloc W o none) (fun r e => by cases e)
theorem agg3 {x0 x1 x2 y0 y1 y2 : UInt8} : ((Value.agg #[.int .u8 (y0.toNat : Int), .int .u8 (y1.toNat : Int), .int .u8 (y2.toNat : Int)]) = .agg #[.int .u8 (x0.toNat : Int), .int .u8 (x1.toNat : Int), .int .u8 (x2.toNat : Int)]) ↔ (y0 = x0 ∧ y1 = x1 ∧ y2 = x2) := by
  constructor
  · intro h
    simp at h
    exact ⟨UInt8.toNat_inj.1 (by omega), UInt8.toNat_inj.1 (by omega), UInt8.toNat_inj.1 (by omega)⟩
  · rintro ⟨rfl, rfl, rfl⟩; rfl
end Go.Proofs.YtkikgidmioofaaaGreat
/- Layer 10: the best match, over any iterator that tells the candidates. -/
namespace Go.Proofs.YtkikgidmioofaaaGreat
open Go.RowKit Go.Shelf
attribute [local go_sem] Oper.semAt_some

/-- The blocks that a round of the loop changes. -/
def S3 (N : Nat) : Nat → Prop := fun k => k = N + 2 ∨ k = N + 3 ∨ k = N + 4
/-- What lies below stays, and cells of what lies at or beyond B may have changed. -/
theorem ownS_box {β : Type} {B k : Nat} {cs : β → Array Value} {t : TypeId} : OwnS B (fun _ => False) (fun (s : β) W => W.heap[k]? = some (.cells (cs s) t)) := ownS_cells (fun h => h)
def BI (N : Nat) (A : Option Addr) (l c : Nat) (a depth : Int) (bs : List UInt8) (w : World) (pre : List Nat) (W : World) : Prop :=
  W.heap[N]? = some (.cells #[.slice A l c] 22) ∧ W.heap[N + 1]? = some (.cells #[.int .i64 a] 3) ∧ W.heap[N + 2]? = some (.cells #[.int .i64 (depth - (pre.length : Nat))] 3) ∧
    W.heap[N + 3]? = some (.cells #[.int .i64 ((foldM bs a pre).1 : Nat)] 3) ∧ W.heap[N + 4]? = some (.cells #[.int .i64 ((foldM bs a pre).2 : Nat)] 3) ∧ Below N w W
theorem ownS_BI (N B : Nat) (A : Option Addr) (l c : Nat) (a depth : Int) (bs : List UInt8) (w : World) (hn : N ≤ w.heap.size) (hB : N ≤ B) : OwnS B (fun _ => False) (BI N A l c a depth bs w) :=
  (ownS_box (cs := fun _ => #[.slice A l c])).and ((ownS_box (cs := fun _ => #[.int .i64 a])).and ((ownS_box (cs := fun pre : List Nat => #[.int .i64 (depth - (pre.length : Nat))])).and
    ((ownS_box (cs := fun pre => #[.int .i64 ((foldM bs a pre).1 : Nat)])).and ((ownS_box (cs := fun pre => #[.int .i64 ((foldM bs a pre).2 : Nat)])).and (ownS_below hn hB (fun _ h => h.elim))))))

theorem alloc_keep {W : World} {k : Nat} {o : Obj} (h : W.heap[k]? = some o) (o' : Obj) : (W.alloc o').heap[k]? = some o := (Below.heap_alloc W o' k (Array.getElem?_eq_some_iff.1 h).1).trans h
theorem cells_drewN {W : World} {m k : Nat} {o : Obj} (h : W.heap[k]? = some o) : (W.drewN m).heap[k]? = some o := h
theorem heap_set_other {W : World} {k b : Nat} {o : Obj} {v : Value} (h : W.heap[k]? = some o) (hk : k ≠ b) : (W.setCell ⟨b, 0, none⟩ v).heap[k]? = some o := (Below.heap_setCell W ⟨b, 0, none⟩ v k hk).trans h
theorem heap_set_one {W : World} {b : Nat} {v u : Value} {t : TypeId} (h : W.heap[b]? = some (.cells #[u] t)) : (W.setCell ⟨b, 0, none⟩ v).heap[b]? = some (.cells #[v] t) := heap_setCell_same W b 0 _ _ _ h
theorem KeepsOthers.drewN (W : World) (m : Nat) : KeepsOthers W (W.drewN m) := ⟨Nat.le_refl _, fun _ _ h _ => h⟩
theorem bi_gt {N : Nat} {A : Option Addr} {l c : Nat} {a depth : Int} {bs : List UInt8} {w W : World} {pre : List Nat} {x : Nat} (h : BI N A l c a depth bs w pre W) (m : Nat) (hgt : (foldM bs a pre).1 < lenI bs a (x : Int)) (dv : Int) (hdv : dv = depth - ((pre ++ [x]).length : Nat)) :
    BI N A l c a depth bs w (pre ++ [x]) ((((W.drewN m).setCell ⟨N + 3, 0, none⟩ (.int .i64 (lenI bs a (x : Int) : Nat))).setCell ⟨N + 4, 0, none⟩ (.int .i64 (x : Int))).setCell ⟨N + 2, 0, none⟩ (.int .i64 dv)) ∧
    KeepC (S3 N) W ((((W.drewN m).setCell ⟨N + 3, 0, none⟩ (.int .i64 (lenI bs a (x : Int) : Nat))).setCell ⟨N + 4, 0, none⟩ (.int .i64 (x : Int))).setCell ⟨N + 2, 0, none⟩ (.int .i64 dv)) ∧
    KeepsOthers W ((((W.drewN m).setCell ⟨N + 3, 0, none⟩ (.int .i64 (lenI bs a (x : Int) : Nat))).setCell ⟨N + 4, 0, none⟩ (.int .i64 (x : Int))).setCell ⟨N + 2, 0, none⟩ (.int .i64 dv)) := by
  obtain ⟨h0, h1, h2, h3, h4, hb⟩ := h
  have hf : foldM bs a (pre ++ [x]) = (lenI bs a (x : Int), x) := by rw [foldM_snoc, stepM, if_pos hgt]
  refine ⟨⟨?_, ?_, ?_, ?_, ?_, ?_⟩, ?_, ?_⟩
  · exact heap_set_other (heap_set_other (heap_set_other (cells_drewN h0) (by omega)) (by omega)) (by omega)
  · exact heap_set_other (heap_set_other (heap_set_other (cells_drewN h1) (by omega)) (by omega)) (by omega)
  · rw [← hdv]; exact heap_set_one (heap_set_other (heap_set_other (cells_drewN h2) (by omega)) (by omega))
  · rw [hf]; exact heap_set_other (heap_set_other (heap_set_one (cells_drewN h3)) (by omega)) (by omega)
  · rw [hf]; exact heap_set_other (heap_set_one (heap_set_other (cells_drewN h4) (by omega))) (by omega)
  · exact (((Below.drewN hb m).setCell (p := ⟨N + 3, 0, none⟩) (by show N ≤ N + 3; omega) _).setCell (p := ⟨N + 4, 0, none⟩) (by show N ≤ N + 4; omega) _).setCell (p := ⟨N + 2, 0, none⟩) (by show N ≤ N + 2; omega) _
  · exact ((KeepC.set (S := S3 N) (W := W.drewN m) ⟨N + 3, 0, none⟩ _ (.inr (.inl rfl))).trans (KeepC.set ⟨N + 4, 0, none⟩ _ (.inr (.inr rfl)))).trans (KeepC.set ⟨N + 2, 0, none⟩ _ (.inl rfl))
  · exact (((KeepsOthers.drewN W m).trans (KeepsOthers.setCell _ _ _)).trans (KeepsOthers.setCell _ _ _)).trans (KeepsOthers.setCell _ _ _)
theorem bi_le {N : Nat} {A : Option Addr} {l c : Nat} {a depth : Int} {bs : List UInt8} {w W : World} {pre : List Nat} {x : Nat} (h : BI N A l c a depth bs w pre W) (m : Nat) (hgt : ¬ (foldM bs a pre).1 < lenI bs a (x : Int)) (dv : Int) (hdv : dv = depth - ((pre ++ [x]).length : Nat)) :
    BI N A l c a depth bs w (pre ++ [x]) ((W.drewN m).setCell ⟨N + 2, 0, none⟩ (.int .i64 dv)) ∧ KeepC (S3 N) W ((W.drewN m).setCell ⟨N + 2, 0, none⟩ (.int .i64 dv)) ∧ KeepsOthers W ((W.drewN m).setCell ⟨N + 2, 0, none⟩ (.int .i64 dv)) := by
  obtain ⟨h0, h1, h2, h3, h4, hb⟩ := h
  have hf : foldM bs a (pre ++ [x]) = foldM bs a pre := by rw [foldM_snoc, stepM, if_neg hgt]
  refine ⟨⟨?_, ?_, ?_, ?_, ?_, ?_⟩, ?_, ?_⟩
  · exact heap_set_other (cells_drewN h0) (by omega)
  · exact heap_set_other (cells_drewN h1) (by omega)
  · rw [← hdv]; exact heap_set_one (cells_drewN h2)
  · rw [hf]; exact heap_set_other (cells_drewN h3) (by omega)
  · rw [hf]; exact heap_set_other (cells_drewN h4) (by omega)
  · exact (Below.drewN hb m).setCell (p := ⟨N + 2, 0, none⟩) (by show N ≤ N + 2; omega) _
  · exact KeepC.set (S := S3 N) (W := W.drewN m) ⟨N + 2, 0, none⟩ _ (.inl rfl)
  · exact (KeepsOthers.drewN W m).trans (KeepsOthers.setCell _ _ _)
set_option maxRecDepth 100000 in
set_option maxHeartbeats 4000000 in
theorem best_in (gf : Nat) (lb : Array Value) (A : Option Addr) (l c : Nat) (bs : List UInt8) (a depth : Int) (w : World) (hl : bs.length = l) (hm : l ≤ 1099511627776) (hb : Bytes w w.heap.size A bs) (hdp : depth ≤ 9223372036854775807) (hdn : -9223372036854775808 ≤ depth)
    (eg : ∀ args w, (callFunc gf args).run Tryz.prog w = .ok (.enter gf args) w)
    (hseq : ∀ (N : Nat) (W : World), w.heap.size ≤ N → Below w.heap.size w W → N + 4 < W.heap.size → SeqS Fence.wide 5 Tryz.prog gf lb (fun x : Nat => #[.int .i64 (x : Int)]) (KeepC (S3 N)) (fun _ => False) (fun xs => xs = cands bs a) (fun pre => pre <+: cands bs a) 32769 W) :
    Calls Tryz.prog 139 #[.slice A l c, .int .i64 a, .int .i64 depth, .func (.func gf) #[] lb] w fun e w' => e = .returned (.tuple #[.int .i64 ((bestM bs a depth).1 : Nat), .int .i64 ((bestM bs a depth).2 : Nat)]) ∧ Below w.heap.size w w' := by
  have HL := Lib.hid hl
  have HBY := Lib.hid hb
  by_cases h1 : depth < 1
  · have hd : decide (depth < 1) = true := decide_eq_true h1
    have HZ : Hid (bestM bs a depth = (0, 0)) := by show _ = _; rw [bestM, show depth.toNat = 0 by omega, List.take_zero]; rfl
    clear h1 HBY hb hseq eg
    go_enter Tryz.func139, Tryz.ntmps139
    go_wp2
    refine bodyPost_ret (v := .tuple #[.int .i64 0, .int .i64 0]) (by simp [results, Tryz.f139, go_sem]) rfl ⟨by rw [HZ.out]; rfl, ?_⟩
    exact (((((Below.refl _ w).alloc (Nat.le_refl _) _).alloc (by simp) _).alloc (by simp; omega) _).alloc (by simp; omega) _).alloc (by simp; omega) _
  · have hd : decide (depth < 1) = false := decide_eq_false h1
    refine (callsIn_wide (n := 6)).1 ?_
    refine callsIn_of_wp_marks Tryz.func139 rfl trivial ?_ rfl
    simp only [Tryz.ntmps139, List.size_toArray, List.length_cons, List.length_nil, Nat.reduceAdd, Nat.reduceSub, Array.replicate_succ, Array.replicate_zero, List.push_toArray, List.append_toArray, List.nil_append, List.cons_append]
    gi_wp2
    obtain ⟨W4, hW4⟩ : ∃ W4, ((((w.alloc (.cells #[.slice A l c] 22)).alloc (.cells #[.int .i64 a] 3)).alloc (.cells #[.int .i64 depth] 3)).alloc (.cells #[.int .i64 0] 3)).alloc (.cells #[.int .i64 0] 3) = W4 := ⟨_, rfl⟩
    have hz4 : W4.heap.size = w.heap.size + 5 := by rw [← hW4]; simp
    have hbi : BI w.heap.size A l c a depth bs w [] W4 := by
      rw [← hW4]
      refine ⟨?_, ?_, ?_, ?_, ?_, ?_⟩
      · exact alloc_keep (alloc_keep (alloc_keep (alloc_keep (heap_alloc_new w _) _) _) _) _
      · have h := heap_alloc_new (w.alloc (.cells #[.slice A l c] 22)) (.cells #[.int .i64 a] 3)
        rw [World.size_alloc] at h
        exact alloc_keep (alloc_keep (alloc_keep h _) _) _
      · have h := heap_alloc_new ((w.alloc (.cells #[.slice A l c] 22)).alloc (.cells #[.int .i64 a] 3)) (.cells #[.int .i64 depth] 3)
        rw [World.size_alloc, World.size_alloc] at h
        simp only [List.length_nil, Int.natCast_zero, Int.sub_zero]
        exact alloc_keep (alloc_keep h _) _
      · have h := heap_alloc_new (((w.alloc (.cells #[.slice A l c] 22)).alloc (.cells #[.int .i64 a] 3)).alloc (.cells #[.int .i64 depth] 3)) (.cells #[.int .i64 0] 3)
        rw [World.size_alloc, World.size_alloc, World.size_alloc] at h
        exact alloc_keep h _
      · have h := heap_alloc_new ((((w.alloc (.cells #[.slice A l c] 22)).alloc (.cells #[.int .i64 a] 3)).alloc (.cells #[.int .i64 depth] 3)).alloc (.cells #[.int .i64 0] 3)) (.cells #[.int .i64 0] 3)
        rw [World.size_alloc, World.size_alloc, World.size_alloc, World.size_alloc] at h
        exact h
      · exact (((((Below.refl _ w).alloc (Nat.le_refl _) _).alloc (by simp) _).alloc (by simp; omega) _).alloc (by simp; omega) _).alloc (by simp; omega) _
    rw [hW4]
    have HSEQ := Lib.hid (hseq w.heap.size W4 (Nat.le_refl _) hbi.2.2.2.2.2 (by omega))
    have HBI := Lib.hid hbi
    have HZ4 := Lib.hid hz4
    have HDP : Hid (1 ≤ depth) := by show _ ≤ _; omega
    rw [show w.heap.size + 1 + 1 + 1 + 1 = w.heap.size + 4 from rfl, show w.heap.size + 1 + 1 + 1 = w.heap.size + 3 from rfl, show w.heap.size + 1 + 1 = w.heap.size + 2 from rfl]
    clear hW4 hseq hbi hz4 h1 hl hb
    generalize hNN : w.heap.size = N at *
    have HNN := Lib.hid hNN
    clear hNN
    refine wpIn_rangeFunc_S rfl (by omega) (gf := gf) (lb := lb) rfl trivial eg HSEQ.out
      (fun r hr => hr.elim) (fun h k => h.trans k) (fun W l o o' _ ho hc _ => KeepC.putObj _ W l o o' ho hc) (Below.refl _ _) (fun _ => rfl)
      (fun pre W => (((pre.length : Nat) : Int) < depth ∧ (foldM bs a pre).1 ≠ 258) ∧ BI N A l c a depth bs w pre W)
      (fun cd pre W => (cd = .exit 0 ∧ ((pre.length : Nat) : Int) ≤ depth ∧ (((pre.length : Nat) : Int) = depth ∨ (foldM bs a pre).1 = 258)) ∧ BI N A l c a depth bs w pre W)
      (ownS_pure.and (ownS_BI N _ A l c a depth bs w (by rw [HNN.out]; exact Nat.le_refl _) (by have := HZ4.out; omega)))
      (fun _ => ownS_pure.and (ownS_BI N _ A l c a depth bs w (by rw [HNN.out]; exact Nat.le_refl _) (by have := HZ4.out; omega)))
      ⟨⟨by have := HDP.out; simp; omega, by simp [foldM]⟩, HBI.out⟩
      (fun x => { tmps := #[.slice A l c, .int .i64 a, .int .i64 depth, .func (.func gf) #[] lb, .pointer (some ⟨N, 0, none⟩), .pointer (some ⟨N + 1, 0, none⟩), .pointer (some ⟨N + 2, 0, none⟩), undef, .pointer (some ⟨N + 3, 0, none⟩), .pointer (some ⟨N + 4, 0, none⟩), .int .i64 (x : Int), undef,
        .int .i64 depth, .bool false, .func (.func gf) #[] lb, .int .i64 (x : Int), undef, undef, undef, undef, undef, undef, undef, undef, undef, undef, undef, undef, undef, undef, undef, undef, undef, undef, undef], defers := [] }) ?assign ?body ?done ?stop
    case assign =>
      intro g x W K hK
      gi_wp2
      exact hK
    case body =>
      rintro g pre x W ⟨⟨hp1, hp2⟩, hbi⟩ hlen
      have c0 := cell_of_row W N 0 _ _ _ hbi.1
      have c1 := cell_of_row W (N + 1) 0 _ _ _ hbi.2.1
      have c2 := cell_of_row W (N + 2) 0 _ _ _ hbi.2.2.1
      have c3 := cell_of_row W (N + 3) 0 _ _ _ hbi.2.2.2.1
      have c4 := cell_of_row W (N + 4) 0 _ _ _ hbi.2.2.2.2.1
      have f2 := frozen_of_row W (N + 2) 0 _ _ hbi.2.2.1
      have f3 := frozen_of_row W (N + 3) 0 _ _ hbi.2.2.2.1
      have f4 := frozen_of_row W (N + 4) 0 _ _ hbi.2.2.2.2.1
      obtain ⟨dv, hdv⟩ : ∃ dv, depth - ((pre.length : Nat) : Int) = dv := ⟨_, rfl⟩
      obtain ⟨fn, hfn⟩ : ∃ fn, (foldM bs a pre).1 = fn := ⟨_, rfl⟩
      obtain ⟨fd, hfd⟩ : ∃ fd, (foldM bs a pre).2 = fd := ⟨_, rfl⟩
      obtain ⟨ln, hln⟩ : ∃ ln, lenI bs a (x : Int) = ln := ⟨_, rfl⟩
      rw [hdv] at c2
      rw [hfn] at c3
      rw [hfd] at c4
      have hw : IntKind.i64.wrap (dv - 1) = dv - 1 := IntWalk.i64_in _ (by omega)
      have hdv2 : dv - 1 = depth - ((pre ++ [x]).length : Nat) := by rw [← hdv, List.length_append, List.length_singleton]; omega
      have hbyW : Bytes W N A bs := HBY.out.below hbi.2.2.2.2.2 (Nat.le_refl _)
      have HLN := Lib.hid (mlen_any A l c bs N a (x : Int) W HL.out hm hbyW)
      rw [hln] at HLN
      have HB := Lib.hid hbi
      have HDV2 := Lib.hid hdv2
      have HPL : Hid (((pre ++ [x]).length : Nat) = pre.length + 1) := by show _ = _; simp
      have HF : Hid (foldM bs a (pre ++ [x]) = if fn < ln then (ln, x) else foldM bs a pre) := by show _ = _; rw [foldM_snoc, stepM, hfn, hln]
      have HDV := Lib.hid hdv
      have HP1 := Lib.hid hp1
      have HFN := Lib.hid hfn
      have HP2 := Lib.hid hp2
      clear hdv2 hbyW hbi hdv hp1 hp2
      by_cases hgt : fn < ln
      · have HGT := Lib.hid (fun m : Nat => bi_gt HB.out m (by rw [hfn, hln]; exact hgt) (dv - 1) HDV2.out)
        rw [hln] at HGT
        have HF2 : Hid ((foldM bs a (pre ++ [x])).1 = ln) := by show _ = _; rw [HF.out, if_pos hgt]
        clear hln hfn hfd
        by_cases hz : dv - 1 = 0
        · have tz : decide (dv - 1 = 0) = true := decide_eq_true hz
          have tb : (dv - 1 == 0) = true := by simpa using hz
          have HZ := Lib.hid hz
          clear hz
          gi_wp2_with (refine ⟨trivial, ?_⟩; gi_at_call 154; refine (CallsIn.inRound g (callsIn_wide.2 HLN.out)).mono ?_; rintro e w' ⟨rfl, m, rfl⟩)
          obtain ⟨q1, q2, q3⟩ := HGT.out m
          exact ⟨q3, ⟨rfl, by have := HP1.out; have := HPL.out; omega, .inl (by have := HZ.out; have := HDV2.out; omega)⟩, q1⟩
        · have tb : (dv - 1 == 0) = false := by simpa using hz
          have HZ := Lib.hid hz
          clear hz
          by_cases h2 : ln = 258
          · have tc : ((ln : Int) == 258) = true := by simp; omega
            have H2 := Lib.hid h2
            clear h2
            gi_wp2_with (refine ⟨trivial, ?_⟩; gi_at_call 154; refine (CallsIn.inRound g (callsIn_wide.2 HLN.out)).mono ?_; rintro e w' ⟨rfl, m, rfl⟩)
            obtain ⟨q1, q2, q3⟩ := HGT.out m
            exact ⟨q3, ⟨rfl, by have := HP1.out; have := HPL.out; omega, .inr (by rw [HF2.out, H2.out])⟩, q1⟩
          · have tc : ((ln : Int) == 258) = false := by simp; omega
            have H2 := Lib.hid h2
            clear h2
            gi_wp2_with (refine ⟨trivial, ?_⟩; gi_at_call 154; refine (CallsIn.inRound g (callsIn_wide.2 HLN.out)).mono ?_; rintro e w' ⟨rfl, m, rfl⟩)
            obtain ⟨q1, q2, q3⟩ := HGT.out m
            exact ⟨q3, q2, ⟨by have := HP1.out; have := HPL.out; have := HZ.out; have := HDV2.out; omega, by rw [HF2.out]; exact H2.out⟩, q1⟩
      · have HGT := Lib.hid (fun m : Nat => bi_le HB.out m (by rw [hfn, hln]; exact hgt) (dv - 1) HDV2.out)
        have HF2 : Hid ((foldM bs a (pre ++ [x])).1 = fn) := by show _ = _; rw [HF.out, if_neg hgt, hfn]
        have h258 : ((fn : Int) == 258) = false := by have := HP2.out; rw [hfn] at this; simp; omega
        clear hln hfn hfd
        by_cases hz : dv - 1 = 0
        · have tb : (dv - 1 == 0) = true := by simpa using hz
          have HZ := Lib.hid hz
          clear hz
          gi_wp2_with (refine ⟨trivial, ?_⟩; gi_at_call 154; refine (CallsIn.inRound g (callsIn_wide.2 HLN.out)).mono ?_; rintro e w' ⟨rfl, m, rfl⟩)
          obtain ⟨q1, q2, q3⟩ := HGT.out m
          exact ⟨q3, ⟨rfl, by have := HP1.out; have := HPL.out; omega, .inl (by have := HZ.out; have := HDV2.out; omega)⟩, q1⟩
        · have tb : (dv - 1 == 0) = false := by simpa using hz
          have HZ := Lib.hid hz
          clear hz
          gi_wp2_with (refine ⟨trivial, ?_⟩; gi_at_call 154; refine (CallsIn.inRound g (callsIn_wide.2 HLN.out)).mono ?_; rintro e w' ⟨rfl, m, rfl⟩)
          obtain ⟨q1, q2, q3⟩ := HGT.out m
          exact ⟨q3, q2, ⟨by have := HP1.out; have := HPL.out; have := HZ.out; have := HDV2.out; omega, by rw [HF2.out]; have := HP2.out; rw [HFN.out] at this; exact this⟩, q1⟩
    case done =>
      rintro D ys W hD rfl ⟨⟨hp1, hp2⟩, hbi⟩ hK
      have hbm : foldM bs a (cands bs a) = bestM bs a depth := bestM_end (List.prefix_refl _) (by omega) (.inl rfl)
      replace hbi := hbi.2.2.2
      clear hp1 hp2
      obtain ⟨fn, hfn⟩ : ∃ fn, (bestM bs a depth).1 = fn := ⟨_, rfl⟩
      obtain ⟨fd, hfd⟩ : ∃ fd, (bestM bs a depth).2 = fd := ⟨_, rfl⟩
      rw [hbm] at hbi
      rw [hfn, hfd] at hbi
      have c3 := cell_of_row W (N + 3) 0 _ _ _ hbi.1
      have c4 := cell_of_row W (N + 4) 0 _ _ _ hbi.2.1
      have f3 := frozen_of_row W (N + 3) 0 _ _ hbi.1
      have f4 := frozen_of_row W (N + 4) 0 _ _ hbi.2.1
      have HBI2 := Lib.hid hbi
      have HKW := Lib.hid hK
      have HDD := Lib.hid hD
      have HFN := Lib.hid hfn
      have HFD := Lib.hid hfd
      clear hbi hK hbm hD hfn hfd
      gi_wp2
      gi_region
      all_goals
        have hD5 : N + 5 ≤ D := by have := HDD.out; have := HZ4.out; omega
        have h3 : (((W.setCell ⟨N + 3, 0, none⟩ (.int .i64 (fn : Int))).setCell ⟨N + 4, 0, none⟩ (.int .i64 (fd : Int))).drew).heap[N + 3]? = some (.cells #[.int .i64 (fn : Int)] 3) := heap_set_other (heap_set_one HBI2.out.1) (by omega)
        have h4 : (((W.setCell ⟨N + 3, 0, none⟩ (.int .i64 (fn : Int))).setCell ⟨N + 4, 0, none⟩ (.int .i64 (fd : Int))).drew).heap[N + 4]? = some (.cells #[.int .i64 (fd : Int)] 3) := heap_set_one (heap_set_other HBI2.out.2.1 (by omega))
        have hK' : (((W.setCell ⟨N + 3, 0, none⟩ (.int .i64 (fn : Int))).setCell ⟨N + 4, 0, none⟩ (.int .i64 (fd : Int))).drew).heap[D]? = some (.deferred (some [])) := heap_set_other (heap_set_other HKW.out (by omega)) (by omega)
        have hbW : Below N w (((W.setCell ⟨N + 3, 0, none⟩ (.int .i64 (fn : Int))).setCell ⟨N + 4, 0, none⟩ (.int .i64 (fd : Int))).drew) := (Below.drewN ((HBI2.out.2.2.setCell (p := ⟨N + 3, 0, none⟩) (by show N ≤ N + 3; omega) _).setCell (p := ⟨N + 4, 0, none⟩) (by show N ≤ N + 4; omega) _) 1)
        generalize ((W.setCell ⟨N + 3, 0, none⟩ (.int .i64 (fn : Int))).setCell ⟨N + 4, 0, none⟩ (.int .i64 (fd : Int))).drew = W6 at *
        gi_wp2
        refine ⟨by simp, .inl ⟨_, _, rfl, run_takeDeferred hK', ?_⟩⟩
        have hc3 : (W6.putObj D (.deferred none)).cell? ⟨N + 3, 0, none⟩ = some (.int .i64 (fn : Int)) := cell_of_row _ (N + 3) 0 _ _ _ ((World.putObj_heap_other (by omega)).trans h3)
        have hc4 : (W6.putObj D (.deferred none)).cell? ⟨N + 4, 0, none⟩ = some (.int .i64 (fd : Int)) := cell_of_row _ (N + 4) 0 _ _ _ ((World.putObj_heap_other (by omega)).trans h4)
        refine ⟨.tuple #[.int .i64 (fn : Int), .int .i64 (fd : Int)], by simp [results, Tryz.f139, go_sem, hc3, hc4], by rw [HFN.out, HFD.out], ?_⟩
        rw [HNN.out]
        exact hbW.trans ((Below.refl N W6).grown (grownBy_putObj' W6 D _) (by have := (Array.getElem?_eq_some_iff.1 hK').1; omega) (fun k e => by cases e; omega))
    case stop =>
      rintro D cd pre W hD hpre ⟨⟨rfl, hp1, hp2⟩, hbi⟩ hK
      have hbm : foldM bs a pre = bestM bs a depth := bestM_end hpre hp1 (.inr hp2)
      replace hbi := hbi.2.2.2
      clear hp1 hp2 hpre
      obtain ⟨fn, hfn⟩ : ∃ fn, (bestM bs a depth).1 = fn := ⟨_, rfl⟩
      obtain ⟨fd, hfd⟩ : ∃ fd, (bestM bs a depth).2 = fd := ⟨_, rfl⟩
      rw [hbm] at hbi
      rw [hfn, hfd] at hbi
      have c3 := cell_of_row W (N + 3) 0 _ _ _ hbi.1
      have c4 := cell_of_row W (N + 4) 0 _ _ _ hbi.2.1
      have f3 := frozen_of_row W (N + 3) 0 _ _ hbi.1
      have f4 := frozen_of_row W (N + 4) 0 _ _ hbi.2.1
      have HBI2 := Lib.hid hbi
      have HKW := Lib.hid hK
      have HDD := Lib.hid hD
      have HFN := Lib.hid hfn
      have HFD := Lib.hid hfd
      clear hbi hK hbm hD hfn hfd
      gi_wp2
      gi_region
      all_goals
        have hD5 : N + 5 ≤ D := by have := HDD.out; have := HZ4.out; omega
        have h3 : (((W.setCell ⟨N + 3, 0, none⟩ (.int .i64 (fn : Int))).setCell ⟨N + 4, 0, none⟩ (.int .i64 (fd : Int))).drew).heap[N + 3]? = some (.cells #[.int .i64 (fn : Int)] 3) := heap_set_other (heap_set_one HBI2.out.1) (by omega)
        have h4 : (((W.setCell ⟨N + 3, 0, none⟩ (.int .i64 (fn : Int))).setCell ⟨N + 4, 0, none⟩ (.int .i64 (fd : Int))).drew).heap[N + 4]? = some (.cells #[.int .i64 (fd : Int)] 3) := heap_set_one (heap_set_other HBI2.out.2.1 (by omega))
        have hK' : (((W.setCell ⟨N + 3, 0, none⟩ (.int .i64 (fn : Int))).setCell ⟨N + 4, 0, none⟩ (.int .i64 (fd : Int))).drew).heap[D]? = some (.deferred (some [])) := heap_set_other (heap_set_other HKW.out (by omega)) (by omega)
        have hbW : Below N w (((W.setCell ⟨N + 3, 0, none⟩ (.int .i64 (fn : Int))).setCell ⟨N + 4, 0, none⟩ (.int .i64 (fd : Int))).drew) := (Below.drewN ((HBI2.out.2.2.setCell (p := ⟨N + 3, 0, none⟩) (by show N ≤ N + 3; omega) _).setCell (p := ⟨N + 4, 0, none⟩) (by show N ≤ N + 4; omega) _) 1)
        generalize ((W.setCell ⟨N + 3, 0, none⟩ (.int .i64 (fn : Int))).setCell ⟨N + 4, 0, none⟩ (.int .i64 (fd : Int))).drew = W6 at *
        gi_wp2
        refine ⟨by simp, .inl ⟨_, _, rfl, run_takeDeferred hK', ?_⟩⟩
        have hc3 : (W6.putObj D (.deferred none)).cell? ⟨N + 3, 0, none⟩ = some (.int .i64 (fn : Int)) := cell_of_row _ (N + 3) 0 _ _ _ ((World.putObj_heap_other (by omega)).trans h3)
        have hc4 : (W6.putObj D (.deferred none)).cell? ⟨N + 4, 0, none⟩ = some (.int .i64 (fd : Int)) := cell_of_row _ (N + 4) 0 _ _ _ ((World.putObj_heap_other (by omega)).trans h4)
        refine ⟨.tuple #[.int .i64 (fn : Int), .int .i64 (fd : Int)], by simp [results, Tryz.f139, go_sem, hc3, hc4], by rw [HFN.out, HFD.out], ?_⟩
        rw [HNN.out]
        exact hbW.trans ((Below.refl N W6).grown (grownBy_putObj' W6 D _) (by have := (Array.getElem?_eq_some_iff.1 hK').1; omega) (fun k e => by cases e; omega))
end Go.Proofs.YtkikgidmioofaaaGreat
