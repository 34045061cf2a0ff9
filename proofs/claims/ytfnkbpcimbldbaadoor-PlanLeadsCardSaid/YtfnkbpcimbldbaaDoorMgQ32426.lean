/- Layer 38: plan.take: what each list has for the first name, which none has any more. -/
import Derived.Test.YtfnkbpcimbldbaaDoorMgQ32425
import Derived.Test.YtfnkbpcimbldbaaDoorMgQ324SRowK
import Derived.Test.YtfnkbpcimbldbaaDoorMgQ32422
import Derived.WalkMore
namespace Go.Proofs.YtfnkbpcimbldbaaDoor
open Go.RowKit

def headQ (n : ByteArray) : List Fi → Option Fi
  | [] => none
  | y :: _ => if y.nm = n then some y else none
def tailQ (n : ByteArray) : List Fi → List Fi
  | [] => []
  | y :: t => if y.nm = n then t else y :: t
def heldA : Option Fi → Value
  | none => .slice none 0 0
  | some f => .slice f.ad f.data.length f.cp
/-- What lists have for a name, in memory. -/
def HeldAt (w : World) (h i : Nat) (o : Option Fi) : Prop := w.cell? ⟨h, i * 2, none⟩ = some (heldA o) ∧ w.cell? ⟨h, i * 2 + 1, none⟩ = some (.bool o.isSome)
theorem heldInfo : (Tryd.prog.info? 54).map (fun i => (i.zero, i.size, i.bytes)) = some (some (.agg #[.slice none 0 0, .bool false]), 2, 32) := by kernel_rfl
theorem make_held (n : Nat) (hn : n ≤ 1000000) (W : World) :
    (Instr.makeSlice 52 (.int .i64 (n : Int)) (.int .i64 (n : Int))).run Tryd.prog W = .ok (.slice (some ⟨W.heap.size, 0, none⟩) n n) (W.alloc (.cells (madeCells #[.slice none 0 0, .bool false] (n * 2)) 54)) := by
  obtain ⟨i0, hi, hz0, hz1, hz2⟩ := info_parts heldInfo
  have h := run_make (P := Tryd.prog) W 52 54 i0 (.agg #[.slice none 0 0, .bool false]) Tryd.underlying52 hi hz0 .i64 .i64 n n (by omega) (Int.le_refl _) (by rw [hz2]; omega) (by omega)
  simp only [Int.toNat_natCast, hz1] at h
  exact h
/-- A row of held, in a block. -/
def HeldB (w : World) (h m : Nat) (os : List (Option Fi)) : Prop := ∃ cur : Array Value, w.heap[h]? = some (.cells cur 54 (0, 0)) ∧ cur.size = m * 2 ∧ ∀ i o, os[i]? = some o → cur[i * 2]? = some (heldA o) ∧ cur[i * 2 + 1]? = some (.bool o.isSome)
theorem made_held (w : World) (m : Nat) : HeldB (w.alloc (.cells (madeCells #[.slice none 0 0, .bool false] (m * 2)) 54)) w.heap.size m (List.replicate m none) := by
  refine ⟨_, heap_alloc_new w _, by simp [madeCells], fun i o ho => ?_⟩
  obtain ⟨hlt, rfl⟩ := List.getElem?_eq_some_iff.1 ho
  rw [List.length_replicate] at hlt
  rw [List.getElem_replicate]
  unfold madeCells
  rw [Array.getElem?_map, Array.getElem?_map, Array.getElem?_range, Array.getElem?_range, if_pos (by omega), if_pos (by omega)]
  refine ⟨?_, ?_⟩
  · simp [heldA]
  · simp [Nat.add_mod]
theorem HeldB.at {w : World} {h m : Nat} {os : List (Option Fi)} (hh : HeldB w h m os) {i : Nat} {o : Option Fi} (ho : os[i]? = some o) : HeldAt w h i o := by
  obtain ⟨cur, hb, _, hc⟩ := hh
  obtain ⟨h1, h2⟩ := hc i o ho
  exact ⟨(cell_of_row _ _ _ _ _ _ hb).trans h1, (cell_of_row _ _ _ _ _ _ hb).trans h2⟩
theorem HeldB.keep {w w1 : World} {S : Nat → Prop} {h m : Nat} {os : List (Option Fi)} (hh : HeldB w h m os) (hm : Mod S w w1) (hn : ¬ S h) : HeldB w1 h m os := by
  obtain ⟨cur, hb, hs, hc⟩ := hh
  exact ⟨cur, hm.keep hb hn, hs, hc⟩
theorem HeldB.set {w : World} {h m k : Nat} {os : List (Option Fi)} (y : Fi) (hh : HeldB w h m os) (hk : k < m) : HeldB ((w.setCell ⟨h, k * 2, none⟩ (.slice y.ad y.data.length y.cp)).setCell ⟨h, k * 2 + 1, none⟩ (.bool true)) h m (os.set k (some y)) := by
  obtain ⟨cur, hb, hs, hc⟩ := hh
  refine ⟨_, heap_setCell_same _ h _ _ _ _ (heap_setCell_same w h _ _ _ _ hb), by simp [hs], fun i o ho => ?_⟩
  by_cases e : i = k
  · subst e
    have h1 : o = some y := by
      rw [List.getElem?_set] at ho
      split at ho
      · split at ho
        · injection ho with ho; exact ho.symm
        · cases ho
      · rename_i hne; exact absurd rfl hne
    subst h1
    refine ⟨?_, ?_⟩
    · rw [Array.getElem?_setIfInBounds_ne (by omega), Array.getElem?_setIfInBounds_self_of_lt (by omega)]; rfl
    · rw [Array.getElem?_setIfInBounds_self_of_lt (by rw [Array.size_setIfInBounds]; omega)]; rfl
  · rw [List.getElem?_set_ne (Ne.symm e)] at ho
    obtain ⟨h1, h2⟩ := hc i o ho
    refine ⟨?_, ?_⟩
    · rw [Array.getElem?_setIfInBounds_ne (by omega), Array.getElem?_setIfInBounds_ne (by omega)]; exact h1
    · rw [Array.getElem?_setIfInBounds_ne (by omega), Array.getElem?_setIfInBounds_ne (by omega)]; exact h2
theorem heldL_hit {os : List (Option Fi)} {k m : Nat} {o : Option Fi} (hm : os.length = m) (ho : os[k]? = some o) : (os.take k ++ List.replicate (m - k) none).set k o = os.take (k + 1) ++ List.replicate (m - (k + 1)) none := by
  have hk := (List.getElem?_eq_some_iff.1 ho).1
  rw [List.set_append_right _ _ (by rw [List.length_take]; omega), List.length_take, Nat.min_eq_left (by omega), Nat.sub_self, List.take_add_one, ho]
  obtain ⟨d, hd⟩ : ∃ d, m - k = d + 1 := ⟨m - k - 1, by omega⟩
  rw [hd, show m - (k + 1) = d by omega, List.replicate_succ, List.set_cons_zero]
  simp
theorem heldL_miss {os : List (Option Fi)} {k m : Nat} (hm : os.length = m) (ho : os[k]? = some none) : os.take k ++ List.replicate (m - k) none = os.take (k + 1) ++ List.replicate (m - (k + 1)) none := by
  have hk := (List.getElem?_eq_some_iff.1 ho).1
  rw [List.take_add_one, ho]
  obtain ⟨d, hd⟩ : ∃ d, m - k = d + 1 := ⟨m - k - 1, by omega⟩
  rw [hd, show m - (k + 1) = d by omega, List.replicate_succ]
  simp
theorem take_hit {w wr : World} {base r m c k : Nat} {os : List (Option Fi)} {y : Fi} {v : Value} {vs : List Value} (hm : os.length = m) (ho : os[k]? = some (some y)) (hr : base ≤ r ∧ r < w.heap.size) (h1 : wr.ownsRow base 22 1 (.slice (some ⟨r, 0, none⟩) m c) m vs)
    (h2 : HeldB wr w.heap.size m (os.take k ++ List.replicate (m - k) none)) (h3 : Mod (oneB r) w wr) :
    let W := ((wr.setCell ⟨w.heap.size, k * 2, none⟩ (.slice y.ad y.data.length y.cp)).setCell ⟨w.heap.size, k * 2 + 1, none⟩ (.bool true)).setCell ⟨r, k, none⟩ v
    W.ownsRow base 22 1 (.slice (some ⟨r, 0, none⟩) m c) m (vs.set k v) ∧ HeldB W w.heap.size m (os.take (k + 1) ++ List.replicate (m - (k + 1)) none) ∧ Mod (oneB r) w W ∧ Mod (orS (oneB r) (oneB w.heap.size)) wr W := by
  have hk := (List.getElem?_eq_some_iff.1 ho).1
  have m1 : Mod (oneB w.heap.size) wr ((wr.setCell ⟨w.heap.size, k * 2, none⟩ (.slice y.ad y.data.length y.cp)).setCell ⟨w.heap.size, k * 2 + 1, none⟩ (.bool true)) := ((Mod.refl (oneB w.heap.size) wr).set ⟨w.heap.size, k * 2, none⟩ _ (.inl rfl)).set ⟨w.heap.size, k * 2 + 1, none⟩ _ (.inl rfl)
  refine ⟨own_setF (own_keep h1 m1 (fun q hq e => by have := (h1.lt q hq); have e1 : q = w.heap.size := e; have hq2 : r = q := by simpa [ownS, Value.ownBlock] using hq
                                                     omega)), ?_, ?_, ?_⟩
  · have := h2.set (k := k) y (by omega)
    rw [heldL_hit hm ho] at this
    exact this.keep ((Mod.refl (oneB r) _).set _ _ (.inl rfl)) (fun e => by have e1 : w.heap.size = r := e; omega)
  · exact ((h3.set _ _ (.inr (Nat.le_refl _))).set _ _ (.inr (Nat.le_refl _))).set _ _ (.inl rfl)
  · exact (((Mod.refl _ wr).set _ _ (.inl (.inr rfl))).set _ _ (.inl (.inr rfl))).set _ _ (.inl (.inl rfl))
set_option maxRecDepth 100000 in
set_option maxHeartbeats 4000000 in
theorem take_any (B base r m c : Nat) (qs : List FL) (n : ByteArray) (w : World) (hl : qs.length = m) (hm : m ≤ 1000) (hq : w.ownsRow base 22 1 (.slice (some ⟨r, 0, none⟩) m c) m (qs.map FL.val)) (he : ∀ q ∈ qs, Files w B q.ad q.fs) (hf : ∀ q ∈ qs, q.fs.length ≤ 1000000 ∧ q.fs.length ≤ q.cp ∧ 0 ≤ q.cp) (hB : B ≤ base) :
    Calls Tryd.prog 40 #[.slice (some ⟨r, 0, none⟩) m c, .string n] w fun e w' => ∃ qs' : List FL, e = .returned (.slice (some ⟨w.heap.size, 0, none⟩) m m) ∧ w'.ownsRow base 22 1 (.slice (some ⟨r, 0, none⟩) m c) m (qs'.map FL.val) ∧ (∀ q ∈ qs', Files w' B q.ad q.fs) ∧
      (∀ q ∈ qs', q.fs.length ≤ 1000000 ∧ q.fs.length ≤ q.cp ∧ 0 ≤ q.cp) ∧ qs'.map FL.fs = (qs.map FL.fs).map (tailQ n) ∧ HeldB w' w.heap.size m ((qs.map FL.fs).map (headQ n)) ∧ Mod (oneB r) w w' := by
  have HO := Lib.hid hq
  have HE := Lib.hid he
  have HF := Lib.hid hf
  have HL := Lib.hid hl
  have HB := Lib.hid hB
  have mk := make_held m (by omega) w
  have HOL : Hid (((qs.map FL.fs).map (headQ n)).length = m) := by show _ = _; rw [List.length_map, List.length_map]; exact HL.out
  obtain ⟨W1, hW1⟩ : ∃ W1, w.alloc (.cells (madeCells #[.slice none 0 0, .bool false] (m * 2)) 54) = W1 := ⟨_, rfl⟩
  have HB1 : Hid (Below w.heap.size w W1) := by show Below _ _ _; rw [← hW1]; exact (Below.refl _ w).alloc (Nat.le_refl _) _
  have HH1 : Hid (HeldB W1 w.heap.size m (List.replicate m none)) := by show HeldB _ _ _ _; rw [← hW1]; exact made_held w m
  have hrb := (hq.lt r rfl)
  rw [hW1] at mk
  clear hq he hf hl hB hW1
  go_enter Tryd.func40, Tryd.ntmps40
  go_wp2
  go_loopg [6, 7, 13] m (fun gk _ _ i wr => ∃ (k : Nat) (qs' : List FL), k + gk = m ∧ i = .int .i64 (k : Int) ∧ qs'.length = k ∧ qs'.map FL.fs = ((qs.map FL.fs).map (tailQ n)).take k ∧ (∀ q ∈ qs', Files wr B q.ad q.fs) ∧ (∀ q ∈ qs', q.fs.length ≤ 1000000 ∧ q.fs.length ≤ q.cp ∧ 0 ≤ q.cp) ∧
    wr.ownsRow base 22 1 (.slice (some ⟨r, 0, none⟩) m c) m ((qs' ++ qs.drop k).map FL.val) ∧ HeldB wr w.heap.size m (((qs.map FL.fs).map (headQ n)).take k ++ List.replicate (m - k) none) ∧ Mod (oneB r) w wr)
  case atStart => exact ⟨0, [], by omega, rfl, rfl, by rw [List.take_zero]; rfl, (by intro q hq; cases hq), (by intro q hq; cases hq), by rw [List.nil_append, List.drop_zero]; exact own_keep HO.out (Mod.of_below HB1.out) (fun _ _ h => h), by rw [List.take_zero, List.nil_append, Nat.sub_zero]; exact HH1.out, (Mod.of_below HB1.out).mono (fun _ h => absurd h id)⟩
  case round =>
    obtain ⟨k, qs', hk, rfl, hkl, hfs, hqf, hqb, hown, hheld, hmod⟩ := hrel
    have HKL := Lib.hid hkl
    have HFS := Lib.hid hfs
    have HQF := Lib.hid hqf
    have HQB := Lib.hid hqb
    have HOWN := Lib.hid hown
    have HHD := Lib.hid hheld
    have HM := Lib.hid hmod
    clear hkl hfs hqf hqb hown hheld hmod
    by_cases h : k < m
    · obtain ⟨q, hx⟩ : ∃ x, qs[k]? = some x := ⟨_, List.getElem?_eq_getElem (by have := HL.out; omega)⟩
      have HX := Lib.hid hx
      have HDK : Hid (qs.drop k = q :: qs.drop (k + 1)) := by
        obtain ⟨h1, h2⟩ := List.getElem?_eq_some_iff.1 hx
        show _ = _
        rw [← h2]
        exact List.drop_eq_getElem_cons h1
      have c0 : wr.cell? ⟨r, k, none⟩ = some (.slice q.ad q.fs.length q.cp) := by
        rw [HOWN.out.cellAt k (by omega), HDK.out, List.map_append, List.map_cons, List.getElem?_append_right (by rw [List.length_map, HKL.out]; omega), List.length_map, HKL.out, Nat.sub_self]
        rfl
      have hfz := own_freeF HOWN.out k
      have hki : (k : Int) < (m : Int) := by omega
      have hw1 : IntKind.i64.wrap ((k : Int) + 1) = (k : Int) + 1 := IntWalk.i64_in _ (by omega)
      have HFQ := Lib.hid ((HE.out q (List.mem_of_getElem? hx)).below (HM.out.below (Below.refl B w) (by have := HB.out; omega) (fun p hp => by have : p = r := hp; have := HB.out; omega)) (Nat.le_refl _))
      have HLQ := Lib.hid (HF.out q (List.mem_of_getElem? hx))
      have HTK : Hid (∀ A' c', (⟨A', c', tailQ n q.fs⟩ : FL).fs = tailQ n q.fs → (qs' ++ [(⟨A', c', tailQ n q.fs⟩ : FL)]).map FL.fs = ((qs.map FL.fs).map (tailQ n)).take (k + 1)) := fun A' c' _ => by
        rw [List.map_append, HFS.out, List.take_add_one, List.getElem?_map, List.getElem?_map, HX.out]
        rfl
      have HOK : Hid (((qs.map FL.fs).map (headQ n))[k]? = some (headQ n q.fs)) := by
        show _ = _
        rw [List.getElem?_map, List.getElem?_map, HX.out]
        rfl
      have HNX : Hid (∀ q', (qs' ++ [q']).length = k + 1) := fun q' => by rw [List.length_append, HKL.out]; rfl
      have HVS : Hid (∀ q' : FL, ((qs' ++ qs.drop k).map FL.val).set k q'.val = ((qs' ++ [q']) ++ qs.drop (k + 1)).map FL.val) := fun q' => by
        rw [HDK.out, List.append_assoc, List.map_append, List.map_append, List.set_append_right _ _ (by rw [List.length_map, HKL.out]; omega), List.length_map, HKL.out, Nat.sub_self]
        rfl
      have HSM : Hid (tailQ n q.fs = q.fs → headQ n q.fs = none → (qs' ++ [⟨q.ad, q.cp, tailQ n q.fs⟩]) ++ qs.drop (k + 1) = qs' ++ qs.drop k ∧ (((qs.map FL.fs).map (headQ n)).take k ++ List.replicate (m - k) none) = (((qs.map FL.fs).map (headQ n)).take (k + 1) ++ List.replicate (m - (k + 1)) none)) := fun e1 e2 => by
        refine ⟨?_, heldL_miss HOL.out (by rw [HOK.out, e2])⟩
        rw [e1, HDK.out, List.append_assoc]
        rfl
      have HMS : Hid (tailQ n q.fs = q.fs → headQ n q.fs = none → ∃ (k' : Nat) (qs' : List FL), k' + (gk - 1) = m ∧ Value.int .i64 ((k : Int) + 1) = .int .i64 (k' : Int) ∧ qs'.length = k' ∧ qs'.map FL.fs = ((qs.map FL.fs).map (tailQ n)).take k' ∧ (∀ q ∈ qs', Files wr B q.ad q.fs) ∧ (∀ q ∈ qs', q.fs.length ≤ 1000000 ∧ q.fs.length ≤ q.cp ∧ 0 ≤ q.cp) ∧
          wr.ownsRow base 22 1 (.slice (some ⟨r, 0, none⟩) m c) m ((qs' ++ qs.drop k').map FL.val) ∧ HeldB wr w.heap.size m (((qs.map FL.fs).map (headQ n)).take k' ++ List.replicate (m - k') none) ∧ Mod (oneB r) w wr) := fun e1 e2 => by
        obtain ⟨g1, g2⟩ := HSM.out e1 e2
        refine ⟨k + 1, qs' ++ [⟨q.ad, q.cp, tailQ n q.fs⟩], by omega, by go_num, HNX.out _, HTK.out _ _ (by trivial), ?_, ?_, ?_, ?_, HM.out⟩
        · intro x hx
          rcases List.mem_append.1 hx with hx | hx
          · exact HQF.out x hx
          · rw [List.mem_singleton] at hx; subst hx; show Files wr B q.ad (tailQ n q.fs); rw [e1]; exact HFQ.out
        · intro x hx
          rcases List.mem_append.1 hx with hx | hx
          · exact HQB.out x hx
          · rw [List.mem_singleton] at hx; subst hx; show (tailQ n q.fs).length ≤ 1000000 ∧ (tailQ n q.fs).length ≤ q.cp ∧ 0 ≤ q.cp; rw [e1]; exact HLQ.out
        · rw [g1]; exact HOWN.out
        · rw [← g2]; exact HHD.out
      clear hx
      cases hfs : q.fs with
      | nil =>
        rw [hfs, List.length_nil] at c0
        have HQ := Lib.hid hfs
        clear hfs
        go_wp2
        go_roundg (gk - 1)
        case measure => omega
        case rel => exact HMS.out (by rw [HQ.out]; rfl) (by rw [HQ.out]; rfl)
      | cons y t =>
        have HQ := Lib.hid hfs
        have hrow := HFQ.out.row
        rw [hfs] at hrow
        rw [hfs, List.length_cons] at c0
        obtain ⟨b, o, hbo, hbB, hc⟩ := hrow (by rw [fi_len, List.length_cons]; omega)
        rw [hbo] at c0
        have d0 := (fi_at (k := 0) (f := y) hc rfl).1
        have d1 := (fi_at (k := 0) (f := y) hc rfl).2
        rw [Nat.zero_mul, Nat.add_zero] at d0 d1
        have hlq := HLQ.out
        rw [hfs, List.length_cons] at hlq
        have hc1 : 1 ≤ q.cp := by omega
        have hc2 : t.length + 1 ≤ q.cp := by omega
        obtain ⟨cur, hcur, hcs, hcv⟩ := HHD.out
        obtain ⟨x0, x1⟩ := hcv k none (by rw [List.getElem?_append_right (by rw [List.length_take]; omega), List.length_take, HOL.out, Nat.min_eq_left (by omega), Nat.sub_self, List.getElem?_replicate, if_pos (by omega)])
        have y0 : wr.cell? ⟨w.heap.size, k * 2, none⟩ = some (heldA none) := (cell_of_row _ _ _ _ _ _ hcur).trans x0
        have y1 : wr.cell? ⟨w.heap.size, k * 2 + 1, none⟩ = some (.bool false) := (cell_of_row _ _ _ _ _ _ hcur).trans x1
        have f0 := box_free hcur (k * 2)
        have f1 := box_free hcur (k * 2 + 1)
        have HCV := Lib.hid hcv
        have HCS := Lib.hid hcs
        have HCUR := Lib.hid hcur
        have HBO := Lib.hid hbo
        have HDR : Hid (Cells wr B (some ⟨b, o + 2, none⟩) (fiCells t)) := by
          have := cells_dropF (p := 1) (show Cells wr B (some ⟨b, o, none⟩) (fiCells (y :: t)) by rw [← hbo]; exact hrow)
          rw [Nat.one_mul, List.drop_one] at this
          exact this
        have HRB : Hid (base ≤ r ∧ r < w.heap.size) := hrb
        clear hfs hc hbo hrow hlq hcv hcur hcs x0 x1
        by_cases hn : y.nm = n
        · have hn2 : y.nm.toList = n.toList := by rw [hn]
          have hn3 : (y.nm.toList == n.toList) = true := by rw [hn]; simp
          have HTQ : Hid (tailQ n q.fs = t) := by show _ = _; rw [HQ.out]; exact if_pos hn
          have HHQ : Hid (headQ n q.fs = some y) := by show _ = _; rw [HQ.out]; exact if_pos hn
          by_cases hcc : q.cp = 1
          · go_wp2
            go_roundg (gk - 1)
            case measure => omega
            case rel =>
              obtain ⟨z1, z2, z3, z4⟩ := take_hit (v := .slice (some ⟨b, o, none⟩) t.length 0) HOL.out (by rw [HOK.out, HHQ.out]) HRB.out HOWN.out HHD.out HM.out
              have hv := HVS.out ⟨(some ⟨b, o, none⟩), 0, tailQ n q.fs⟩
              refine ⟨k + 1, qs' ++ [⟨(some ⟨b, o, none⟩), 0, tailQ n q.fs⟩], by omega, by go_num, HNX.out _, HTK.out _ _ (by trivial), ?_, ?_, ?_, z2, z3⟩
              · intro x hx
                have hb4 := z4.below (Below.refl B wr) (by have := HB.out; have := HRB.out; have := HM.out.size; omega) (fun p hp => by have := HB.out; have := HRB.out; rcases hp with hp | hp <;> (have hpp := hp; unfold oneB at hpp; omega))
                rcases List.mem_append.1 hx with hx | hx
                · exact (HQF.out x hx).below hb4 (Nat.le_refl _)
                · rw [List.mem_singleton] at hx
                  subst hx
                  refine Files.below ?_ hb4 (Nat.le_refl _)
                  show Files wr B (some ⟨b, o, none⟩) (tailQ n q.fs)
                  rw [HTQ.out]
                  refine ⟨fun hp => absurd hp (by rw [fi_len]; have := HLQ.out; rw [HQ.out, List.length_cons] at this; omega), fun f hf => HFQ.out.each f (by rw [HQ.out]; exact List.mem_cons_of_mem _ hf)⟩
              · intro x hx
                rcases List.mem_append.1 hx with hx | hx
                · exact HQB.out x hx
                · rw [List.mem_singleton] at hx
                  subst hx
                  show (tailQ n q.fs).length ≤ 1000000 ∧ (tailQ n q.fs).length ≤ 0 ∧ 0 ≤ _
                  rw [HTQ.out]
                  have := HLQ.out
                  rw [HQ.out, List.length_cons] at this
                  omega
              · rw [← hv]
                unfold FL.val
                rw [HTQ.out]
                exact z1
          · go_wp2
            go_roundg (gk - 1)
            case measure => omega
            case rel =>
              obtain ⟨z1, z2, z3, z4⟩ := take_hit (v := .slice (some ⟨b, o + 2, none⟩) t.length (q.cp - 1)) HOL.out (by rw [HOK.out, HHQ.out]) HRB.out HOWN.out HHD.out HM.out
              have hv := HVS.out ⟨(some ⟨b, o + 2, none⟩), (q.cp - 1), tailQ n q.fs⟩
              refine ⟨k + 1, qs' ++ [⟨(some ⟨b, o + 2, none⟩), (q.cp - 1), tailQ n q.fs⟩], by omega, by go_num, HNX.out _, HTK.out _ _ (by trivial), ?_, ?_, ?_, z2, z3⟩
              · intro x hx
                have hb4 := z4.below (Below.refl B wr) (by have := HB.out; have := HRB.out; have := HM.out.size; omega) (fun p hp => by have := HB.out; have := HRB.out; rcases hp with hp | hp <;> (have hpp := hp; unfold oneB at hpp; omega))
                rcases List.mem_append.1 hx with hx | hx
                · exact (HQF.out x hx).below hb4 (Nat.le_refl _)
                · rw [List.mem_singleton] at hx
                  subst hx
                  refine Files.below ?_ hb4 (Nat.le_refl _)
                  show Files wr B (some ⟨b, o + 2, none⟩) (tailQ n q.fs)
                  rw [HTQ.out]
                  refine ⟨HDR.out, fun f hf => HFQ.out.each f (by rw [HQ.out]; exact List.mem_cons_of_mem _ hf)⟩
              · intro x hx
                rcases List.mem_append.1 hx with hx | hx
                · exact HQB.out x hx
                · rw [List.mem_singleton] at hx
                  subst hx
                  show (tailQ n q.fs).length ≤ 1000000 ∧ (tailQ n q.fs).length ≤ (q.cp - 1) ∧ 0 ≤ (q.cp - 1)
                  rw [HTQ.out]
                  have := HLQ.out
                  rw [HQ.out, List.length_cons] at this
                  omega
              · rw [← hv]
                unfold FL.val
                rw [HTQ.out]
                exact z1
        · have hn3 : (y.nm.toList == n.toList) = false := by rw [nmEq_dec]; exact decide_eq_false hn
          have hn2 : ¬ y.nm.toList = n.toList := by rw [← beq_iff_eq, hn3]; decide
          have HNE : Hid (y.nm ≠ n) := hn
          clear hn
          go_wp2
          go_roundg (gk - 1)
          case measure => omega
          case rel => exact HMS.out (by rw [HQ.out]; exact if_neg HNE.out) (by rw [HQ.out]; exact if_neg HNE.out)
    · obtain rfl : k = m := by omega
      go_wp2
      go_ret
      have e1 : ((qs.map FL.fs).map (headQ n)).take k = (qs.map FL.fs).map (headQ n) := List.take_of_length_le (by rw [HOL.out]; omega)
      have e3 : ((qs.map FL.fs).map (tailQ n)).take k = (qs.map FL.fs).map (tailQ n) := List.take_of_length_le (by rw [List.length_map, List.length_map]; have := HL.out; omega)
      have e2 : qs.drop k = [] := List.drop_of_length_le (by have := HL.out; omega)
      have ho := HOWN.out
      have hf := HFS.out
      have hh := HHD.out
      rw [e2, List.append_nil] at ho
      rw [e3] at hf
      rw [e1] at hh
      rw [Nat.sub_self, List.replicate_zero, List.append_nil] at hh
      exact ⟨qs', rfl, ho, HQF.out, HQB.out, hf, hh, HM.out⟩
end Go.Proofs.YtfnkbpcimbldbaaDoor
/- Layer 38: plan.each: what is done with every name of several lists, one after another. -/
namespace Go.Proofs.YtfnkbpcimbldbaaDoor
open Go.RowKit

section
variable {U : List ByteArray} {l : List Fi} (hr : Ris Fi.nm l) (hU : Ris id U) (hs : ∀ x ∈ l, x.nm ∈ U) {i : Nat} {n : ByteArray} (hn : U[i]? = some n)
include hr hU hs hn
theorem headQ_rest : headQ n (restK Fi.nm U i l) = findK Fi.nm l n ∧ tailQ n (restK Fi.nm U i l) = restK Fi.nm U (i + 1) l := by
  cases hf : findK Fi.nm l n with
  | some x =>
    rw [rest_hit hr hU hs hn hf]
    have := ((find_mem hr).1 hf).2
    exact ⟨if_pos this, if_pos this⟩
  | none =>
    rw [rest_miss hr hn hf]
    cases h : restK Fi.nm U (i + 1) l with
    | nil => exact ⟨rfl, rfl⟩
    | cons y t =>
      have h2 : ltN n y.nm = true := rest_later (k := Fi.nm) hU hs hn (y := y) (by rw [h]; exact List.mem_cons_self ..)
      have h3 : ¬ y.nm = n := fun e => by rw [e, ltN_irrefl] at h2; cases h2
      exact ⟨if_neg h3, if_neg h3⟩
omit hr in
theorem heads_rest {y : Fi} {t : List Fi} (h : restK Fi.nm U i l = y :: t) : y.nm = n ∨ ltN n y.nm = true := by
  obtain ⟨h1, h2⟩ := mem_rest.1 (show y ∈ restK Fi.nm U i l by rw [h]; exact List.mem_cons_self ..)
  by_cases e : y.nm = n
  · exact .inl e
  · refine .inr (ris_later hU hn (hs y h1) (fun h3 => ?_))
    rcases (take_mem hn).1 h3 with h3 | h3
    · exact h2 h3
    · exact e h3
end

theorem flElem : Elem Tryd.prog 70 22 (.slice none 0 0) 1 24 := Elem.of Tryd.underlying70 (by kernel_rfl) (by kernel_rfl) (by omega)
set_option maxRecDepth 100000 in
set_option maxHeartbeats 1000000 in
theorem sclone2_any (a : Addr) (m c : Nat) (qs : List FL) (B : Nat) (w : World) (hl : qs.length = m) (h0 : 0 < m) (hm : m ≤ 1000) (hb : Cells w B (some a) (qs.map FL.val)) (hB : B ≤ w.heap.size) :
    Calls Tryd.prog 38 #[.slice (some a) m c] w fun e w' => ∃ r c', e = .returned (.slice (some ⟨r, 0, none⟩) m c') ∧ w'.ownsRow w.heap.size 22 1 (.slice (some ⟨r, 0, none⟩) m c') m (qs.map FL.val) ∧ Below w.heap.size w w' := by
  obtain ⟨w1, hw1⟩ : ∃ w1, w.alloc (.cells #[] 22) = w1 := ⟨_, rfl⟩
  have HB1 : Hid (Below w.heap.size w w1) := by show Below _ _ _; rw [← hw1]; exact (Below.refl _ w).alloc (Nat.le_refl _) _
  have HO1 : Hid (w1.ownsRow w.heap.size 22 1 (.slice (some ⟨w.heap.size, 0, none⟩) 0 0) 0 []) := ⟨rfl, .inr ⟨w.heap.size, 0, #[], rfl, Nat.le_refl _, by rw [← hw1]; exact heap_alloc_new w _, Nat.le_refl _, by unfold maxLen; omega, rfl, rfl⟩⟩
  have HC1 := Lib.hid ((hb.more hB).below HB1.out (Nat.le_refl _))
  have HL : Hid ((qs.map FL.val).length = m * 1) := by show _ = _; rw [List.length_map, hl, Nat.mul_one]
  have hz := HB1.out.size
  have hq : ∀ V, (binOp .eql 70 (.slice (some a) m c) (.slice none 0 0)).run Tryd.prog V = .ok (.bool false) V := fun V => sliceNil_run V _ _ _ _ _ Tryd.underlying70
  have h1 : ∀ u ∈ qs.map FL.val, u.oneCell' = true := fun u hu => by
    obtain ⟨q, _, rfl⟩ := List.mem_map.1 hu
    rfl
  clear hb hB hl
  go_enter Tryd.func38, Tryd.ntmps38
  go_wp2_with (at_builtin; go_must (skip; refine wpList_app w1 flElem rfl (.tmp 5) (.tmp 6) rfl w.heap.size (.slice (some ⟨w.heap.size, 0, none⟩) 0 0) 0 [] rfl HO1.out w.heap.size (some a) m c (qs.map FL.val) rfl HL.out HC1.out h1 (by unfold maxLen; omega) (by omega) hz ?_; intro A3 c3 w3 hA; have HA := Lib.hid hA; clear hA))
  go_ret
  have ho := HA.out.own
  rw [Nat.zero_add, List.nil_append] at ho
  obtain ⟨r, rfl⟩ : ∃ r, A3 = some ⟨r, 0, none⟩ := by
    rcases ownK_form ho with ⟨_, h0⟩ | ⟨g, c', hv⟩
    · omega
    · simp only [Value.slice.injEq] at hv
      exact ⟨g, hv.1⟩
  exact ⟨r, c3, by simp, ho, HA.out.below HB1.out HB1.out.size (fun q hq => (HO1.out.lt q hq).1)⟩

set_option maxRecDepth 100000 in
set_option maxHeartbeats 4000000 in
theorem each_any (F B B2 b p q m c : Nat) (I : Nat → Nat → World → Prop) (qs : List FL) (U : List ByteArray) (w : World) (hCF : ∀ args W, Sem.run Tryd.prog (callFunc F args) W = .ok (.enter F args) W) (hl : qs.length = m) (h0 : 0 < m) (hm : m ≤ 1000) (hq : Cells w B2 (some ⟨b, 0, none⟩) (qs.map FL.val)) (hB2 : B2 ≤ w.heap.size)
    (he : ∀ q ∈ qs, Files w B q.ad q.fs) (hf : ∀ q ∈ qs, q.fs.length ≤ 1000000 ∧ q.fs.length ≤ q.cp ∧ 0 ≤ q.cp) (hB : B ≤ w.heap.size)
    (hr : ∀ q ∈ qs, Ris Fi.nm q.fs) (hU : Ris id U) (hUm : ∀ s, s ∈ U ↔ ∃ q ∈ qs, ∃ x ∈ q.fs, x.nm = s)
    (hI0 : ∀ r w1, Below w.heap.size w w1 → w.heap.size ≤ r → I r 0 w1) (hIk : ∀ r k w1 w2, I r k w1 → Mod (oneB r) w1 w2 → w.heap.size ≤ r → I r k w2)
    (hD : ∀ r k n h w1, U[k]? = some n → I r k w1 → Below B w w1 → w.heap.size ≤ r → r < w1.heap.size → HeldB w1 h m (qs.map fun q => findK Fi.nm q.fs n) → Calls Tryd.prog F #[.string n, .slice (some ⟨h, 0, none⟩) m m, .pointer (some ⟨p, 0, none⟩), .pointer (some ⟨q, 0, none⟩)] w1 fun e w2 => e = .returned (.tuple #[]) ∧ I r (k + 1) w2 ∧ Mod (fun j => B ≤ j ∧ j ≠ r) w1 w2) :
    Calls Tryd.prog 24 #[.func (.func F) #[] #[.pointer (some ⟨p, 0, none⟩), .pointer (some ⟨q, 0, none⟩)], .slice (some ⟨b, 0, none⟩) m c] w fun e w' => e = .returned (.tuple #[]) ∧ ∃ r, w.heap.size ≤ r ∧ I r U.length w' := by
  have HS := Lib.hid (sclone2_any ⟨b, 0, none⟩ m c qs B2 w hl h0 hm hq hB2)
  have HCF := Lib.hid hCF
  have HE := Lib.hid he
  have HF := Lib.hid hf
  have HL := Lib.hid hl
  have HB := Lib.hid hB
  have HR := Lib.hid hr
  have HU := Lib.hid hU
  have HUM := Lib.hid hUm
  have HI0 := Lib.hid hI0
  have HIK := Lib.hid hIk
  have HD := Lib.hid hD
  have HM := Lib.hid hm
  have HSU : Hid (∀ q ∈ qs, ∀ x ∈ q.fs, x.nm ∈ U) := fun q hq x hx => (hUm _).2 ⟨q, hq, x, hx, rfl⟩
  clear hq he hf hl hB hr hU hUm hI0 hIk hD hB2 h0 hCF
  go_enter Tryd.func24, Tryd.ntmps24
  go_wp2
  go_step3
  go_wp2_with (go_at_call 38; refine HS.out.mono ?_; rintro e1 w1 ⟨r, c1, rfl, ho1, hb1⟩; have HO1 := Lib.hid ho1; have HB1 := Lib.hid hb1; clear ho1 hb1)
  have HRB : Hid (w.heap.size ≤ r ∧ r < w1.heap.size) := ⟨(HO1.out.lt r rfl).1, (HO1.out.lt r rfl).2⟩
  have HB1' : Hid (Below B w w1) := ⟨HB1.out.os, HB1.out.tape, HB1.out.output, HB1.out.size, fun k hk => HB1.out.block k (by have := HB.out; omega)⟩
  go_step3
  go_wp2
  go_loopg [5, 6] U.length (fun gk _ _ wr => ∃ (k : Nat) (qs' : List FL), k + gk = U.length ∧ qs'.length = m ∧ qs'.map FL.fs = qs.map (fun q => restK Fi.nm U k q.fs) ∧ (∀ q ∈ qs', Files wr B q.ad q.fs) ∧ (∀ q ∈ qs', q.fs.length ≤ 1000000 ∧ q.fs.length ≤ q.cp ∧ 0 ≤ q.cp) ∧
    wr.ownsRow w.heap.size 22 1 (.slice (some ⟨r, 0, none⟩) m c1) m (qs'.map FL.val) ∧ I r k wr ∧ Below B w wr ∧ r < wr.heap.size)
  case atStart => exact ⟨0, qs, by omega, HL.out, by refine List.map_congr_left (fun q _ => ?_); rw [rest_zero], fun q hq => (HE.out q hq).below HB1'.out (Nat.le_refl _), HF.out, HO1.out, HI0.out r w1 HB1.out HRB.out.1, HB1'.out, HRB.out.2⟩
  case round =>
    obtain ⟨k, qs', hk, hl', hfs, hff, hbb, hown, hI, hbel, hrl⟩ := hrel
    have HL' := Lib.hid hl'
    have HFS := Lib.hid hfs
    have HFF := Lib.hid hff
    have HBB := Lib.hid hbb
    have HOWN := Lib.hid hown
    have HI := Lib.hid hI
    have HBE := Lib.hid hbel
    have HRL := Lib.hid hrl
    have HRE : Hid (Rests wr B r qs') := ⟨fun i q hq => by rw [HOWN.out.cellAt i (by have := (List.getElem?_eq_some_iff.1 hq).1; omega), List.getElem?_map, hq]; rfl, hff, fun q hq => ⟨(hbb q hq).1, .inr (hbb q hq).2.1⟩⟩
    have HMEM : Hid (∀ q' ∈ qs', ∃ q ∈ qs, q'.fs = restK Fi.nm U k q.fs) := fun q' hq' => by
      have h1 : q'.fs ∈ qs'.map FL.fs := List.mem_map.2 ⟨q', hq', rfl⟩
      rw [hfs] at h1
      obtain ⟨q, h2, h3⟩ := List.mem_map.1 h1
      exact ⟨q, h2, h3.symm⟩
    clear hl' hfs hff hbb hown hI hbel hrl
    by_cases h : k < U.length
    · obtain ⟨n, hn⟩ : ∃ n, U[k]? = some n := ⟨_, List.getElem?_eq_getElem h⟩
      have HN := Lib.hid hn
      have HLY := Lib.hid (least_yes B r m c1 qs' n wr HL'.out HM.out HRE.out (fun q' hq' y t hy => by
        obtain ⟨q, h1, h2⟩ := HMEM.out q' hq'
        rw [h2] at hy
        exact heads_rest HU.out (HSU.out q h1) hn hy) (by
        obtain ⟨q, h1, x, h2, h3⟩ := (HUM.out n).1 (List.mem_of_getElem? hn)
        have h4 : restK Fi.nm U k q.fs ∈ qs'.map FL.fs := by rw [HFS.out]; exact List.mem_map.2 ⟨q, h1, rfl⟩
        obtain ⟨q', h5, h6⟩ := List.mem_map.1 h4
        exact ⟨q', h5, x, _, h6.trans (rest_hit (HR.out q h1) HU.out (HSU.out q h1) hn ((find_mem (HR.out q h1)).2 ⟨h2, h3⟩)), h3⟩))
      have HTA := Lib.hid (take_any B w.heap.size r m c1 qs' n wr HL'.out HM.out HOWN.out HFF.out HBB.out HB.out)
      have HHE : Hid ((qs'.map FL.fs).map (headQ n) = qs.map fun q => findK Fi.nm q.fs n) := by
        show _ = _
        rw [HFS.out, List.map_map]
        exact List.map_congr_left (fun q hq => (headQ_rest (HR.out q hq) HU.out (HSU.out q hq) hn).1)
      have HTE : Hid ((qs'.map FL.fs).map (tailQ n) = qs.map fun q => restK Fi.nm U (k + 1) q.fs) := by
        show _ = _
        rw [HFS.out, List.map_map]
        exact List.map_congr_left (fun q hq => (headQ_rest (HR.out q hq) HU.out (HSU.out q hq) hn).2)
      rw [HHE.out, HTE.out] at HTA
      clear hn
      go_wp2_with (first
        | (go_at_call 39; refine HLY.out.mono ?_; rintro e2 w2 ⟨rfl, rfl⟩)
        | (go_at_call 40; refine HTA.out.mono ?_; rintro e3 w3 ⟨qs3, rfl, ho3, hf3, hb3, hm3, hh3, hd3⟩; have HO3 := Lib.hid ho3; have HF3 := Lib.hid hf3; have HB3 := Lib.hid hb3; have HM3 := Lib.hid hm3; have HH3 := Lib.hid hh3; have HD3 := Lib.hid hd3; clear ho3 hf3 hb3 hm3 hh3 hd3))
      rw [HCF.out, Oper.upon_enter]
      refine (HD.out r k n _ w3 HN.out (HIK.out r k _ _ HI.out HD3.out HRB.out.1) (HD3.out.below HBE.out (Nat.le_trans HB.out HBE.out.size) (fun p hp => by have e : p = r := hp; have := HRB.out.1; have := HB.out; omega)) HRB.out.1 (Nat.lt_of_lt_of_le HRL.out HD3.out.size) HH3.out).mono ?_
      rintro e4 w4 ⟨rfl, hi4, hm4⟩
      have HI4 := Lib.hid hi4
      have HM4 := Lib.hid hm4
      clear hi4 hm4
      go_wp2
      go_roundg (gk - 1)
      case measure => omega
      case rel =>
        have hb3 : Below B w w3 := HD3.out.below HBE.out (Nat.le_trans HB.out HBE.out.size) (fun p hp => by have e : p = r := hp; have := HRB.out.1; have := HB.out; omega)
        have hb4 : Below B w3 w4 := HM4.out.below (Below.refl _ _) (Nat.le_trans HB.out hb3.size) (fun p hp => hp.1)
        refine ⟨k + 1, qs3, by omega, by have h7 := congrArg List.length HM3.out; rw [List.length_map, List.length_map, HL.out] at h7; exact h7, HM3.out, fun q hq => (HF3.out q hq).below hb4 (Nat.le_refl _), HB3.out, own_keep HO3.out HM4.out (fun j hj hn => ?_), HI4.out, hb3.trans hb4, Nat.lt_of_lt_of_le (Nat.lt_of_lt_of_le HRL.out HD3.out.size) HM4.out.size⟩
        have h9 : r = j := by simpa [ownS, Value.ownBlock] using hj
        exact hn.2 h9.symm
    · obtain rfl : k = U.length := by omega
      have HLN := Lib.hid (least_no B r m c1 qs' wr HL'.out HM.out HRE.out (fun q' hq' => by
        obtain ⟨q, h1, h2⟩ := HMEM.out q' hq'
        rw [h2]
        exact rest_end (HSU.out q h1) (Nat.le_refl _)))
      go_wp2_with (go_at_call 39; refine HLN.out.mono ?_; rintro e2 w2 ⟨rfl, rfl⟩)
      rw [Exit.noGoto_normal]
      go_end0
      exact ⟨rfl, r, HRB.out.1, HI.out⟩
end Go.Proofs.YtfnkbpcimbldbaaDoor
