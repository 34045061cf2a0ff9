/- Layer 7: Lengths of weights of which none, or one alone, weighs something. -/
import Derived.Test.YtbpgaaecifnohaaMgRunsPuts33
namespace Go.Proofs.Ytbpgaaecifnohaa
open Go.RowKit Go.Shelf

/-- The lengths of weights. -/
def lensW (ns : List Nat) : List Nat := match itemsW ns with
  | [] => List.replicate ns.length 0
  | [x] => (List.replicate ns.length 0).set x.2 1
  | its => incW (List.replicate ns.length 0) (symsW its)
theorem lensW_none {ns : List Nat} (h : itemsW ns = []) : lensW ns = List.replicate ns.length 0 := by rw [lensW, h]
theorem lensW_one {ns : List Nat} {x : Nat × Nat} (h : itemsW ns = [x]) : lensW ns = (List.replicate ns.length 0).set x.2 1 := by rw [lensW, h]
theorem lensW_many {ns : List Nat} (h : 2 ≤ (itemsW ns).length) : lensW ns = incW (List.replicate ns.length 0) (symsW (itemsW ns)) := by
  rw [lensW]
  split
  · rename_i e; rw [e] at h; simp at h
  · rename_i e; rw [e] at h; simp at h
  · rfl
theorem lensW_len (ns : List Nat) : (lensW ns).length = ns.length := by
  rw [lensW]
  split
  · simp
  · simp
  · rw [incW_len]; simp
theorem itP_mem {ns : List Nat} : ∀ {k : Nat} {x : Nat × Nat}, x ∈ itP ns k → ns[x.2]? = some x.1 ∧ 0 < x.1 ∧ x.2 < k
  | 0, x, h => by simp [itP] at h
  | k + 1, x, h => by
    rw [itP] at h
    split at h
    · rename_i y hy
      split at h
      · rename_i hp
        rcases List.mem_append.1 h with h | h
        · obtain ⟨h1, h2, h3⟩ := itP_mem h
          exact ⟨h1, h2, by omega⟩
        · rw [List.mem_singleton.1 h]
          exact ⟨hy, hp, by show k < _; omega⟩
      · obtain ⟨h1, h2, h3⟩ := itP_mem h
        exact ⟨h1, h2, by omega⟩
    · obtain ⟨h1, h2, h3⟩ := itP_mem h
      exact ⟨h1, h2, by omega⟩
theorem itemsW_mem {ns : List Nat} {x : Nat × Nat} (h : x ∈ itemsW ns) : ns[x.2]? = some x.1 ∧ 0 < x.1 ∧ x.2 < ns.length := itP_mem ((sortW_perm _).mem_iff.1 h)
theorem itemsW_len (ns : List Nat) : (itemsW ns).length ≤ ns.length := by
  rw [itemsW, (sortW_perm _).length_eq]
  exact itP_len _ _
set_option maxRecDepth 100000 in
set_option maxHeartbeats 1000000 in
theorem lengths_none (A : Option Addr) (l c : Nat) (ns : List Nat) (B : Nat) (w : World) (hz : ns.length = l) (hl : l ≤ 320) (hb : Cells w B A (nCs ns)) (hB : B ≤ w.heap.size) (hok : ∀ n ∈ ns, n ≤ 1073741824) (hn : itemsW ns = []) :
    Calls Try.prog 25 #[.slice A l c] w fun e w' => ∃ A' c', e = .returned (.tuple #[.slice A' l c', .int .i64 0]) ∧ w'.ownsRow w.heap.size 3 1 (.slice A' l c') l (nCs (lensW ns)) ∧ Below w.heap.size w w' := by
  have HC := Lib.hid hb
  have HL := Lib.hid hz
  have HOK := Lib.hid hok
  have HB := Lib.hid hB
  have HN := Lib.hid hn
  have hd : decide ((320 : Int) < (l : Int)) = false := by simp; omega
  clear hb hz hok hB hn
  go_enter Try.func25, Try.ntmps25
  go_wp2
  go_loopg [17] l (fun gk i wr => ∃ k : Nat, k + gk = l ∧ i = .int .i64 k ∧ wr = w)
  case atStart => exact ⟨0, by omega, rfl, rfl⟩
  case round =>
    obtain ⟨k, hk, rfl, rfl⟩ := hrel
    by_cases h : k < l
    · obtain ⟨x, hx⟩ : ∃ x, ns[k]? = some x := ⟨_, List.getElem?_eq_getElem (by have := HL.out; omega)⟩
      obtain ⟨b, o, rfl, hbB, hc⟩ := HC.out (by rw [nCs_len, HL.out]; omega)
      have c0 : wr.cell? ⟨b, o + k, none⟩ = some (.int .i64 (x : Int)) := hc k _ (nCs_at hx)
      have hxo := HOK.out x (List.mem_of_getElem? hx)
      have hq : wB (x : Int) = true := by simp [wB]; omega
      have HR := Lib.hid (rweight_any (x : Int) wr)
      rw [hq] at HR
      clear hc hx hq
      go_wp2_with (go_at_call 51; refine HR.out.mono ?_; rintro e w' ⟨rfl, rfl⟩)
      go_roundg (gk - 1)
      case measure => omega
      case rel => exact ⟨k + 1, by omega, by go_num, rfl⟩
    · obtain rfl : k = l := by omega
      have HI := Lib.hid (fun W (hW : Below wr.heap.size wr W) => items_any A k c ns B W HL.out (by omega) (Nat.le_trans HB.out hW.size) (HC.out.below hW HB.out))
      obtain ⟨w1, hw1⟩ : ∃ w1, wr.alloc (.cells (madeCells #[.int .i64 0] k) 3) = w1 := ⟨_, rfl⟩
      have hmk : (Instr.makeSlice 22 (.int .i64 (k : Int)) (.int .i64 (k : Int))).run Try.prog wr = .ok (.slice (some ⟨wr.heap.size, 0, none⟩) k k) w1 := by rw [← hw1]; exact wei_make k (by omega) wr
      have HN1 : Hid (NB w1 wr.heap.size (List.replicate k 0)) := by show NB _ _ _; rw [← hw1]; exact wei_made wr k
      have HB1 : Hid (Below wr.heap.size wr w1) := by show Below _ _ _; rw [← hw1]; exact (Below.refl _ _).alloc (Nat.le_refl _) _
      have HZ1 : Hid (w1.heap.size = wr.heap.size + 1) := by show _ = _; rw [← hw1]; simp
      clear hw1
      go_wp2_with (go_at_call 52; refine (HI.out w1 HB1.out).mono ?_; rintro e w2 ⟨A7, n7, c7, rfl, hn7, ho7, hb7⟩; (obtain rfl : n7 = 0 := by rw [hn7, HN.out]; rfl); have HB7 := Lib.hid hb7; clear hn7 ho7 hb7)
      go_ret2
      have h2 : NB w2 wr.heap.size (List.replicate k 0) := HN1.out.below HB7.out (by rw [HZ1.out]; omega)
      have h3 := h2.own (Nat.le_refl _) (by unfold maxLen; simp; omega)
      simp only [List.length_replicate] at h3
      exact ⟨_, k, rfl, by rw [lensW_none HN.out, HL.out]; exact h3, HB1.out.trans (HB7.out.mono (by rw [HZ1.out]; omega))⟩
set_option maxRecDepth 100000 in
set_option maxHeartbeats 1000000 in
theorem lengths_one (A : Option Addr) (l c : Nat) (ns : List Nat) (B : Nat) (w : World) (x0 s0 : Nat) (hz : ns.length = l) (hl : l ≤ 320) (hb : Cells w B A (nCs ns)) (hB : B ≤ w.heap.size) (hok : ∀ n ∈ ns, n ≤ 1073741824) (hn : itemsW ns = [(x0, s0)]) :
    Calls Try.prog 25 #[.slice A l c] w fun e w' => ∃ A' c', e = .returned (.tuple #[.slice A' l c', .int .i64 0]) ∧ w'.ownsRow w.heap.size 3 1 (.slice A' l c') l (nCs (lensW ns)) ∧ Below w.heap.size w w' := by
  have HC := Lib.hid hb
  have HL := Lib.hid hz
  have HOK := Lib.hid hok
  have HB := Lib.hid hB
  have HN := Lib.hid hn
  have hs0 : s0 < l := by
    have := (itemsW_mem (ns := ns) (x := (x0, s0)) (by rw [hn]; simp)).2.2
    rw [hz] at this
    exact this
  have hd : decide ((320 : Int) < (l : Int)) = false := by simp; omega
  clear hb hz hok hB hn
  go_enter Try.func25, Try.ntmps25
  go_wp2
  go_loopg [17] l (fun gk i wr => ∃ k : Nat, k + gk = l ∧ i = .int .i64 k ∧ wr = w)
  case atStart => exact ⟨0, by omega, rfl, rfl⟩
  case round =>
    obtain ⟨k, hk, rfl, rfl⟩ := hrel
    by_cases h : k < l
    · obtain ⟨x, hx⟩ : ∃ x, ns[k]? = some x := ⟨_, List.getElem?_eq_getElem (by have := HL.out; omega)⟩
      obtain ⟨b, o, rfl, hbB, hc⟩ := HC.out (by rw [nCs_len, HL.out]; omega)
      have c0 : wr.cell? ⟨b, o + k, none⟩ = some (.int .i64 (x : Int)) := hc k _ (nCs_at hx)
      have hxo := HOK.out x (List.mem_of_getElem? hx)
      have hq : wB (x : Int) = true := by simp [wB]; omega
      have HR := Lib.hid (rweight_any (x : Int) wr)
      rw [hq] at HR
      clear hc hx hq
      go_wp2_with (go_at_call 51; refine HR.out.mono ?_; rintro e w' ⟨rfl, rfl⟩)
      go_roundg (gk - 1)
      case measure => omega
      case rel => exact ⟨k + 1, by omega, by go_num, rfl⟩
    · obtain rfl : k = l := by omega
      have HI := Lib.hid (fun W (hW : Below wr.heap.size wr W) => items_any A k c ns B W HL.out (by omega) (Nat.le_trans HB.out hW.size) (HC.out.below hW HB.out))
      obtain ⟨w1, hw1⟩ : ∃ w1, wr.alloc (.cells (madeCells #[.int .i64 0] k) 3) = w1 := ⟨_, rfl⟩
      have hmk : (Instr.makeSlice 22 (.int .i64 (k : Int)) (.int .i64 (k : Int))).run Try.prog wr = .ok (.slice (some ⟨wr.heap.size, 0, none⟩) k k) w1 := by rw [← hw1]; exact wei_make k (by omega) wr
      have HN1 : Hid (NB w1 wr.heap.size (List.replicate k 0)) := by show NB _ _ _; rw [← hw1]; exact wei_made wr k
      have HB1 : Hid (Below wr.heap.size wr w1) := by show Below _ _ _; rw [← hw1]; exact (Below.refl _ _).alloc (Nat.le_refl _) _
      have HZ1 : Hid (w1.heap.size = wr.heap.size + 1) := by show _ = _; rw [← hw1]; simp
      clear hw1
      obtain ⟨g, hg⟩ : ∃ g, wr.heap.size = g := ⟨_, rfl⟩
      have HG := Lib.hid hg
      rw [hg] at hmk HN1 HZ1
      clear hg
      go_wp2_with (go_at_call 52; refine (HI.out w1 HB1.out).mono ?_; rintro e w2 ⟨A7, n7, c7, rfl, hn7, ho7, hb7⟩; (obtain rfl : n7 = 1 := by rw [hn7, HN.out]; rfl); have HB7 := Lib.hid hb7; (have hcc := (cells_of_ownK ho7).2 (by rw [HN.out]; simp [itEn, elC])); obtain ⟨b7, o7, rfl, _, hcell⟩ := hcc; (have f1 : w2.cell? ⟨b7, o7 + 1, none⟩ = some (.int .i64 (s0 : Int)) := hcell 1 _ (by rw [HN.out]; rfl)); (have HN2 := Lib.hid (HN1.out.below HB7.out (by rw [HZ1.out]; omega))); (have d0 : w2.cell? ⟨g, s0, none⟩ = some (.int .i64 0) := by (have := HN2.out.cell (k := s0) (n := 0) (by simp [hs0])); simpa using this); (have d1 : w2.frozen? ⟨g, s0, none⟩ = false := HN2.out.free); clear hn7 ho7 hb7 hcell)
      go_ret2
      have h2 := HN2.out.set s0 1
      have h3 := h2.own (base := g) (Nat.le_refl _) (by unfold maxLen; simp; omega)
      simp only [List.length_replicate, List.length_set] at h3
      have hg := HG.out
      have hb : Below g wr w2 := by
        rw [← hg]
        exact HB1.out.trans (HB7.out.mono (by rw [HZ1.out]; omega))
      rw [hg]
      exact ⟨_, k, rfl, by rw [lensW_one HN.out, HL.out]; exact h3, hb.setCell (p := ⟨g, s0, none⟩) (Nat.le_refl _) _⟩
end Go.Proofs.Ytbpgaaecifnohaa
/- Layer 7, plainly: the items of weights, and their lengths. -/
namespace Go.Proofs.Ytbpgaaecifnohaa

theorem itP_nodup {ns : List Nat} : ∀ k, ((itP ns k).map (·.2)).Nodup
  | 0 => by simp [itP]
  | k + 1 => by
    have ih := itP_nodup (ns := ns) k
    rw [itP]
    split
    · split
      · rw [List.map_append, List.nodup_append]
        refine ⟨ih, by simp, fun a ha b hb => ?_⟩
        obtain ⟨x, hx, rfl⟩ := List.mem_map.1 ha
        have h3 := (itP_mem hx).2.2
        have : b = k := by simpa using hb
        omega
      · exact ih
    · exact ih
theorem itemsW_good {ns : List Nat} (h2 : 2 ≤ (itemsW ns).length) (hl : ns.length ≤ 16384) : Good (itemsW ns) where
  rise := by
    rw [RiseW, firstW, List.pairwise_map]
    exact (sortW_le _).imp fun {a b} h => by dsimp only; omega
  nodup := ((sortW_perm (itP ns ns.length)).map (·.2)).nodup_iff.2 (itP_nodup _)
  two := h2
  few := Nat.le_trans (itemsW_len ns) hl
theorem prW_all {P : Nat → Prop} : ∀ l : List WE, (∀ x ∈ l, ∀ s ∈ x.2, P s) → ∀ x ∈ prW l, ∀ s ∈ x.2, P s
  | [], _, x, h => by simp [prW] at h
  | [_], _, x, h => by simp [prW] at h
  | a :: b :: r, hl, x, h => by
    rw [prW] at h
    rcases List.mem_cons.1 h with rfl | h
    · intro s hs
      rcases List.mem_append.1 hs with hs | hs
      · exact hl a (by simp) s hs
      · exact hl b (by simp) s hs
    · exact prW_all r (fun y hy => hl y (by simp [hy])) x h
theorem rowW_all {P : Nat → Prop} {first : List WE} (h : ∀ x ∈ first, ∀ s ∈ x.2, P s) : ∀ k, ∀ x ∈ rowW first k, ∀ s ∈ x.2, P s
  | 0, x, hx => h x hx
  | k + 1, x, hx => by
    rw [rowW] at hx
    rcases mgW_mem _ _ x hx with hx | hx
    · exact h x hx
    · exact prW_all _ (rowW_all h k) x hx
theorem firstW_all {ns : List Nat} : ∀ x ∈ firstW (itemsW ns), ∀ s ∈ x.2, s < ns.length := by
  intro x hx s hs
  obtain ⟨y, hy, rfl⟩ := List.mem_map.1 hx
  have h1 : s = y.2 := by simpa using hs
  rw [h1]
  exact (itemsW_mem hy).2.2
/-- No symbol is counted more than 15 times. -/
theorem lnW_le {ns : List Nat} (hg : Good (itemsW ns)) (s : Nat) : lnW (itemsW ns) s ≤ 15 := by
  by_cases h : s ∈ (itemsW ns).map (·.2)
  · obtain ⟨x, hx, rfl⟩ := List.mem_map.1 h
    exact ln_le hg hx
  · rw [ln_none hg h]
    exact Nat.zero_le _
theorem count_flat_le {l : List WE} (s j m : Nat) (h : j ≤ m) : ((l.take j).flatMap (·.2)).count s ≤ ((l.take m).flatMap (·.2)).count s := by
  obtain ⟨d, rfl⟩ := Nat.exists_eq_add_of_le h
  rw [List.take_add, List.flatMap_append, List.count_append]
  omega
end Go.Proofs.Ytbpgaaecifnohaa
