/- Layer 7: what lengths cost. -/
import Derived.Test.YtaknladkodibaaaGreatDoorMgQ35344
import Derived.Test.YtaknladkodibaaaGreatDoorMgQ35315
import Derived.Test.YtaknladkodibaaaGreatDoorMgQ353SWeiEl
import Derived.Test.YtaknladkodibaaaGreatDoorMgQ35313
import Derived.Deep.RegionHeld3
namespace Go.Proofs.YtaknladkodibaaaGreatDoor
open Go.RowKit

end Go.Proofs.YtaknladkodibaaaGreatDoor
/- Layer 7, plainly: what the lengths of weights are like. -/
namespace Go.Proofs.YtaknladkodibaaaGreatDoor

theorem itP_has {ns : List Nat} {s x : Nat} (h : ns[s]? = some x) (h0 : 0 < x) : ∀ {k : Nat}, s < k → (x, s) ∈ itP ns k
  | 0, hk => absurd hk (by omega)
  | k + 1, hk => by
    by_cases e : s = k
    · subst e
      rw [itP_yes h h0]
      exact List.mem_append_right _ (by simp)
    · have ih := itP_has h h0 (k := k) (by omega)
      rw [itP]
      split
      · split
        · exact List.mem_append_left _ ih
        · exact ih
      · exact ih
theorem itemsW_has {ns : List Nat} {s x : Nat} (h : ns[s]? = some x) (h0 : 0 < x) : (x, s) ∈ itemsW ns := (sortW_perm _).mem_iff.2 (itP_has h h0 (List.getElem?_eq_some_iff.1 h).1)
theorem lensW_at {ns : List Nat} (h : 2 ≤ (itemsW ns).length) {s : Nat} (hs : s < ns.length) : (lensW ns).getD s 0 = lnW (itemsW ns) s := by
  rw [lensW_many h, incW_getD _ _ _ (by rw [List.length_replicate]; exact hs)]
  have h0 : (List.replicate ns.length 0).getD s 0 = 0 := by rw [List.getD, List.getElem?_replicate, if_pos hs]; rfl
  rw [h0, Nat.zero_add]
  rfl
theorem lensW_at1 {ns : List Nat} {x0 s0 : Nat} (h : itemsW ns = [(x0, s0)]) {s : Nat} (hs : s < ns.length) : (lensW ns).getD s 0 = if s = s0 then 1 else 0 := by
  rw [lensW_one h]
  by_cases e : s = s0
  · subst e
    simp [List.getD, hs]
  · rw [if_neg e, List.getD, List.getElem?_set_ne (by simpa using Ne.symm e), List.getElem?_replicate, if_pos hs]
    rfl
theorem lensW_at0 {ns : List Nat} (h : itemsW ns = []) (s : Nat) : (lensW ns).getD s 0 = 0 := by
  rw [lensW_none h, List.getD, List.getElem?_replicate]
  split <;> rfl
theorem items_cases (ns : List Nat) : itemsW ns = [] ∨ (∃ x s, itemsW ns = [(x, s)]) ∨ 2 ≤ (itemsW ns).length := by
  match h : itemsW ns with
  | [] => exact .inl rfl
  | [(x, s)] => exact .inr (.inl ⟨x, s, rfl⟩)
  | a :: b :: r => exact .inr (.inr (by simp))
/-- What weighs something alone has a length, of 15 at most. -/
theorem lensW_pos {ns : List Nat} (hl : ns.length ≤ 16384) {s x : Nat} (h : ns[s]? = some x) : (0 < (lensW ns).getD s 0 ↔ 0 < x) ∧ (lensW ns).getD s 0 ≤ 15 := by
  have hs := (List.getElem?_eq_some_iff.1 h).1
  rcases items_cases ns with hi | ⟨x0, s0, hi⟩ | hi
  · rw [lensW_at0 hi]
    refine ⟨⟨fun h1 => absurd h1 (by omega), fun h1 => ?_⟩, by omega⟩
    have := itemsW_has h h1
    rw [hi] at this
    simp at this
  · rw [lensW_at1 hi hs]
    refine ⟨⟨fun h1 => ?_, fun h1 => ?_⟩, by split <;> omega⟩
    · have e : s = s0 := by
        by_cases e : s = s0
        · exact e
        · rw [if_neg e] at h1; omega
      obtain ⟨h2, h3, _⟩ := itemsW_mem (ns := ns) (x := (x0, s0)) (by rw [hi]; simp)
      rw [← e, h] at h2
      injection h2 with h2
      dsimp only at h2 h3
      omega
    · have := itemsW_has h h1
      rw [hi] at this
      simp at this
      rw [if_pos this.2]
      omega
  · have hg := itemsW_good hi hl
    rw [lensW_at hi hs]
    refine ⟨⟨fun h1 => ?_, fun h1 => ln_pos hg (itemsW_has h h1)⟩, lnW_le hg s⟩
    by_cases hm : s ∈ (itemsW ns).map (·.2)
    · obtain ⟨y, hy, e⟩ := List.mem_map.1 hm
      obtain ⟨h2, h3, _⟩ := itemsW_mem hy
      rw [e, h] at h2
      injection h2 with h2
      omega
    · rw [ln_none hg hm] at h1
      omega
/-- Numbers as Go has them. -/
def zN (ns : List Nat) : List Int := ns.map fun n : Nat => (n : Int)
theorem zN_at {ns : List Nat} {k n : Nat} (h : ns[k]? = some n) : (zN ns)[k]? = some (n : Int) := by simp [zN, h]
theorem zN_len (ns : List Nat) : (zN ns).length = ns.length := by simp [zN]
theorem zN_cs (ns : List Nat) : nCs ns = zCs (zN ns) := by simp [nCs, zCs, zN]
theorem wt_nat (n : Nat) (h : 0 < n) : wt (n : Int) = 2 ^ (15 - n) := by
  unfold wt
  rw [if_pos (by omega), Int.toNat_natCast]
/-- What lengths take of all, item by item. -/
theorem wsum_items {ns ls : List Nat} (hll : ls.length = ns.length) (hp : ∀ s x, ns[s]? = some x → (0 < ls.getD s 0 ↔ 0 < x)) : ∀ k, k ≤ ns.length → wsum ((zN ls).take k) = ((itP ns k).map fun x => 2 ^ (15 - ls.getD x.2 0)).sum
  | 0, _ => rfl
  | k + 1, hk => by
    have ih := wsum_items hll hp k (by omega)
    obtain ⟨x, hx⟩ : ∃ x, ns[k]? = some x := ⟨_, List.getElem?_eq_getElem (by omega)⟩
    obtain ⟨y, hy⟩ : ∃ y, ls[k]? = some y := ⟨_, List.getElem?_eq_getElem (by omega)⟩
    have hg : ls.getD k 0 = y := by rw [List.getD, hy]; rfl
    have h1 := hp k x hx
    rw [hg] at h1
    rw [wsum_snoc (zN_at hy), ih]
    by_cases h0 : 0 < x
    · rw [itP_yes hx h0, List.map_append, List.sum_append, wt_nat y (h1.2 h0)]
      simp [hy]
    · rw [itP_no hx h0]
      have : y = 0 := by
        rcases Nat.eq_zero_or_pos y with h | h
        · exact h
        · exact absurd (h1.1 h) h0
      rw [this]
      show _ + 0 = _
      omega
theorem sum_perm {α : Type} {l m : List α} (h : l.Perm m) (f : α → Nat) : (l.map f).sum = (m.map f).sum := (h.map f).sum_nat
theorem wsum_all {ns ls : List Nat} (hll : ls.length = ns.length) (hp : ∀ s x, ns[s]? = some x → (0 < ls.getD s 0 ↔ 0 < x)) : wsum (zN ls) = ((itemsW ns).map fun x => 2 ^ (15 - ls.getD x.2 0)).sum := by
  have h := wsum_items hll hp ns.length (Nat.le_refl _)
  rw [List.take_of_length_le (by rw [zN_len, hll]; exact Nat.le_refl _)] at h
  rw [h]
  exact sum_perm (sortW_perm _).symm _
/-- Of two symbols or more the lengths leave nothing over. -/
theorem lensW_kraft {ns : List Nat} (hl : ns.length ≤ 16384) : (wsum (zN (lensW ns)) = 32768 ↔ 2 ≤ (itemsW ns).length) := by
  have h := wsum_all (ns := ns) (ls := lensW ns) (lensW_len ns) (fun s x hx => (lensW_pos hl hx).1)
  rw [h]
  rcases items_cases ns with hi | ⟨x0, s0, hi⟩ | hi
  · rw [hi]
    simp
  · have hs := (itemsW_mem (ns := ns) (x := (x0, s0)) (by rw [hi]; simp)).2.2
    have e : (lensW ns).getD s0 0 = 1 := by rw [lensW_at1 hi hs, if_pos rfl]
    rw [hi]
    rw [List.map_cons, List.map_nil, List.sum_cons, List.sum_nil]
    dsimp only
    rw [e]
    simp
  · have hg := itemsW_good hi hl
    refine ⟨fun _ => hi, fun _ => ?_⟩
    have hk := ln_kraft hg
    refine Eq.trans ?_ hk
    refine congrArg List.sum (List.map_congr_left fun x hx => ?_)
    rw [lensW_at hi (itemsW_mem hx).2.2]
theorem lensW_right {ns : List Nat} (hl : ns.length ≤ 16384) : ∀ x ∈ zN (lensW ns), lenB x = true := by
  intro x hx
  obtain ⟨n, hn, rfl⟩ := List.mem_map.1 hx
  obtain ⟨s, hs⟩ := List.mem_iff_getElem?.1 hn
  have hlt : s < ns.length := by
    have := (List.getElem?_eq_some_iff.1 hs).1
    rwa [lensW_len] at this
  have h := (lensW_pos hl (List.getElem?_eq_getElem hlt)).2
  rw [List.getD, hs] at h
  have : n ≤ 15 := h
  simp [lenB]
  omega
end Go.Proofs.YtaknladkodibaaaGreatDoor
/- Layer 7: the reference's items. -/
namespace Go.Proofs.YtaknladkodibaaaGreatDoor
open Go.RowKit

/-- A store into a row of the call's own. -/
theorem own_setK {w : World} {base g k n c j : Nat} {e : TypeId} {xs : List Value} {u : Value} (h : w.ownsRow base e k (.slice (some ⟨g, 0, none⟩) n c) n xs) : (w.setCell ⟨g, j, none⟩ u).ownsRow base e k (.slice (some ⟨g, 0, none⟩) n c) n (xs.set j u) := by
  rcases h.2 with ⟨h2, _⟩ | ⟨g', cap, cur, hv, hg, hh, hnc, hcm, hcs, htake⟩
  · cases h2
  · simp only [Value.slice.injEq, Option.some.injEq, Addr.mk.injEq] at hv
    obtain ⟨⟨rfl, _, _⟩, _, rfl⟩ := hv
    refine ⟨by rw [List.length_set]; exact h.1, .inr ⟨g, c, cur.setIfInBounds j u, rfl, hg, heap_setCell_same w g j _ _ _ hh, hnc, hcm, by simp [hcs], ?_⟩⟩
    rw [Array.toList_setIfInBounds, List.take_set, htake]
theorem own_free {w : World} {base g k n c : Nat} {e : TypeId} {xs : List Value} (h : w.ownsRow base e k (.slice (some ⟨g, 0, none⟩) n c) n xs) (j : Nat) : w.frozen? ⟨g, j, none⟩ = false := by
  rcases h.2 with ⟨h2, _⟩ | ⟨g', cap, cur, hv, hg, hh, _⟩
  · cases h2
  · simp only [Value.slice.injEq, Option.some.injEq, Addr.mk.injEq] at hv
    obtain ⟨⟨rfl, _, _⟩, _, rfl⟩ := hv
    simp [World.frozen?, hh]
/-- An item's cells. -/
def rItE (x : Nat × Nat) : List Value := [.int .i64 (x.2 : Int), .int .i64 (x.1 : Int)]
theorem rItElem : Elem Tryz.prog 231 234 (.agg #[.int .i64 0, .int .i64 0]) 2 16 := Elem.of Tryz.underlying231 (by kernel_rfl) (by kernel_rfl) (by omega)
theorem rIt_len (l : List (Nat × Nat)) : (l.flatMap rItE).length = l.length * 2 := by
  induction l with
  | nil => rfl
  | cons x l ih => rw [List.flatMap_cons, List.length_append, ih, List.length_cons]; show 2 + _ = _; omega
theorem rIt_at {l : List (Nat × Nat)} {i : Nat} {x : Nat × Nat} (h : l[i]? = some x) : (l.flatMap rItE)[i * 2]? = some (.int .i64 (x.2 : Int)) ∧ (l.flatMap rItE)[i * 2 + 1]? = some (.int .i64 (x.1 : Int)) := by
  induction l generalizing i with
  | nil => simp at h
  | cons y l ih =>
    cases i with
    | zero =>
      obtain rfl : y = x := by simpa using h
      exact ⟨rfl, rfl⟩
    | succ i =>
      obtain ⟨h1, h2⟩ := ih (i := i) (by simpa using h)
      rw [List.flatMap_cons, List.getElem?_append_right (by show 2 ≤ _; omega), List.getElem?_append_right (by show 2 ≤ _; omega)]
      rw [show (i + 1) * 2 - (rItE y).length = i * 2 by show (i + 1) * 2 - 2 = _; omega, show (i + 1) * 2 + 1 - (rItE y).length = i * 2 + 1 by show (i + 1) * 2 + 1 - 2 = _; omega]
      exact ⟨h1, h2⟩
theorem set4 (L R : List Value) (a b c d u v s t : Value) (p : Nat) (hp : L.length = p) : ((((L ++ a :: b :: c :: d :: R).set (p + 2) u).set (p + 3) v).set p s).set (p + 1) t = L ++ s :: t :: u :: v :: R := by
  subst hp
  induction L with
  | nil => rfl
  | cons x L ih =>
    rw [List.cons_append, List.length_cons, show L.length + 1 + 2 = (L.length + 2) + 1 by omega, show L.length + 1 + 3 = (L.length + 3) + 1 by omega]
    rw [List.set_cons_succ, List.set_cons_succ, List.set_cons_succ, List.set_cons_succ, ih]
    rfl
/-- Where an item is laid in. -/
def LeW (x y : Nat × Nat) : Prop := x.1 < y.1 ∨ x.1 = y.1 ∧ x.2 ≤ y.2
theorem ins_ok {ns : List Nat} {k x : Nat} {d a b : List (Nat × Nat)} (hp : d.Perm (itP ns k)) (hw : d.Pairwise LeW) (hd : d = a ++ b) (hb : ∀ y ∈ b, x < y.1) (ha : ∀ y ∈ a, y.1 ≤ x) (hi : itP ns (k + 1) = itP ns k ++ [(x, k)]) :
    (a ++ (x, k) :: b).Perm (itP ns (k + 1)) ∧ (a ++ (x, k) :: b).Pairwise LeW ∧ (a ++ (x, k) :: b).length = d.length + 1 := by
  subst hd
  have hs : ∀ y ∈ a, y.2 < k := fun y hy => (itP_mem (hp.subset (List.mem_append_left _ hy))).2.2
  obtain ⟨w1, w2, w3⟩ := List.pairwise_append.1 hw
  refine ⟨?_, List.pairwise_append.2 ⟨w1, List.pairwise_cons.2 ⟨fun y hy => .inl (hb y hy), w2⟩, fun y hy z hz => ?_⟩, by simp; omega⟩
  · rw [hi]
    refine List.perm_middle.trans ?_
    exact (hp.cons _).trans (List.perm_append_singleton _ _).symm
  · rcases List.mem_cons.1 hz with rfl | hz
    · have h1 := ha y hy
      have h2 := hs y hy
      unfold LeW
      dsimp only
      omega
    · exact w3 y hy z hz
theorem ins_last {d a b : List (Nat × Nat)} {y : Nat × Nat} {x : Nat} (hw : d.Pairwise LeW) (hd : d = (a ++ [y]) ++ b) (hy : y.1 ≤ x) : ∀ z ∈ a ++ [y], z.1 ≤ x := by
  subst hd
  intro z hz
  rcases List.mem_append.1 hz with hz | hz
  · obtain ⟨w1, _, _⟩ := List.pairwise_append.1 hw
    have h := (List.pairwise_append.1 w1).2.2 z hz y (by simp)
    unfold LeW at h
    omega
  · rw [List.mem_singleton.1 hz]
    exact hy
set_option maxRecDepth 100000 in
set_option maxHeartbeats 2000000 in
theorem refItems_any (A : Option Addr) (l c : Nat) (ns : List Nat) (B : Nat) (w : World) (hl : ns.length = l) (hm : l ≤ 1000) (hB : B ≤ w.heap.size) (hb : Cells w B A (nCs ns)) :
    Calls Tryz.prog 163 #[.slice A l c] w fun e w' => ∃ A' n' c', e = .returned (.slice A' n' c') ∧ n' = (itemsW ns).length ∧ w'.ownsRow w.heap.size 234 2 (.slice A' n' c') n' ((itemsW ns).flatMap rItE) ∧ Below w.heap.size w w' := by
  have HC := Lib.hid hb
  have HL := Lib.hid hl
  clear hb hl
  go_enter Tryz.func163, Tryz.ntmps163
  go_wp2
  go_loopg [3, 4] l (fun gk v i wr => ∃ k : Nat, k + gk = l ∧ i = .int .i64 k ∧ ∃ (A1 : Option Addr) (n c1 : Nat) (d : List (Nat × Nat)), v = .slice A1 n c1 ∧ n = d.length ∧ n ≤ k ∧ d.Perm (itP ns k) ∧ d.Pairwise LeW ∧ wr.ownsRow w.heap.size 234 2 (.slice A1 n c1) n (d.flatMap rItE) ∧ Below w.heap.size w wr)
  case atStart => exact ⟨0, by omega, rfl, none, 0, 0, [], rfl, rfl, by omega, List.Perm.refl _, List.Pairwise.nil, World.ownsRow_nil _ _ _ _, Below.refl _ _⟩
  case round =>
    obtain ⟨k, hk, rfl, A1, n, c1, d, rfl, hn, hnk, hperm, hpw, hown, hbel⟩ := hrel
    have HOWN := Lib.hid hown
    have HBEL := Lib.hid hbel
    have HN := Lib.hid hn
    have HP := Lib.hid hperm
    have HW := Lib.hid hpw
    clear hown hbel hn hperm hpw
    by_cases h : k < l
    · obtain ⟨x, hx⟩ : ∃ x, ns[k]? = some x := ⟨_, List.getElem?_eq_getElem (by have := HL.out; omega)⟩
      obtain ⟨b, o, rfl, hbB, hc⟩ := (HC.out.below HBEL.out hB) (by rw [nCs_len, HL.out]; omega)
      have c0 : wr.cell? ⟨b, o + k, none⟩ = some (.int .i64 (x : Int)) := hc k _ (nCs_at hx)
      have HX := Lib.hid hx
      clear hx hc
      by_cases h0 : x = 0
      · have hd : ((x : Int) == 0) = true := by simp [h0]
        have HI : Hid (itP ns (k + 1) = itP ns k) := itP_no HX.out (by omega)
        clear h0
        go_wp2
        go_roundg (gk - 1)
        case measure => omega
        case rel => exact ⟨k + 1, by omega, by go_num, A1, n, c1, d, rfl, HN.out, by omega, by rw [HI.out]; exact HP.out, HW.out, HOWN.out, HBEL.out⟩
      · have hd : ((x : Int) == 0) = false := by simp; omega
        have HI : Hid (itP ns (k + 1) = itP ns k ++ [(x, k)]) := itP_yes HX.out (by omega)
        have HXP : Hid (0 < x) := by show 0 < x; omega
        clear h0
        go_wp2_with (at_builtin; refine wpList_app1 wr rItElem rfl (.tmp 18) (.tmp 25) rfl w.heap.size (.slice A1 n c1) n (d.flatMap rItE) rfl HOWN.out _ rfl rfl (by simp [Value.oneCell']) (by unfold maxLen; omega) (by omega) HBEL.out.size ?_; intro A' c' w2 hA; have HA := Lib.hid hA; clear hA)
        have HO2 : Hid (w2.ownsRow w.heap.size 234 2 (.slice A' (n + 1) c') (n + 1) ((d ++ [(x, k)]).flatMap rItE)) := by
          have h1 := HA.out.own
          rw [List.flatMap_append]
          exact h1
        have HB2 := Lib.hid (HA.out.below HBEL.out HBEL.out.size (own_base HOWN.out))
        obtain ⟨g, rfl⟩ : ∃ g, A' = some ⟨g, 0, none⟩ := by
          rcases HO2.out.2 with ⟨hv, _⟩ | ⟨g, cap, cur, hv, _⟩
          · simp at hv
          · simp only [Value.slice.injEq] at hv
            exact ⟨g, hv.1⟩
        clear HA
        obtain ⟨GK, hGK⟩ : ∃ GK, GK = gk := ⟨_, rfl⟩
        subst hGK
        go_wp2
        go_loopg [5, 6] n (fun gi i xp wi => ∃ (q : Nat) (a b : List (Nat × Nat)), q = gi ∧ i = .int .i64 q ∧ a.length = q ∧ q ≤ n ∧ d = a ++ b ∧ (∀ y ∈ b, x < y.1) ∧
          wi.ownsRow w.heap.size 234 2 (.slice (some ⟨g, 0, none⟩) (n + 1) c') (n + 1) ((a ++ (x, k) :: b).flatMap rItE) ∧ Below w.heap.size w wi)
        case atStart => exact ⟨n, d, [], by omega, by go_num, HN.out.symm, Nat.le_refl _, by simp, fun _ h => by simp at h, HO2.out, HB2.out⟩
        case round =>
          clear HO2 HB2 HOWN HBEL
          obtain ⟨q, a, b, rfl, rfl, ha, hqn, hd, hbig, hown, hbel⟩ := hrel
          have HOWN := Lib.hid hown
          have HBEL := Lib.hid hbel
          have HA := Lib.hid ha
          have HD := Lib.hid hd
          have HBIG := Lib.hid hbig
          clear hown hbel hd hbig
          by_cases hq0 : q = 0
          · have hn1 : decide (0 < q) = false := by simp [hq0]
            have hn2 : decide ((0 : Int) < (q : Int)) = false := by simp [hq0]
            have hnil : a = [] := List.eq_nil_of_length_eq_zero (by omega)
            have HNIL := Lib.hid hnil
            clear hq0 ha hnil
            go_wp2
            go_quiet (fail)
            go_wp2
            go_roundg (GK - 1)
            case measure => omega
            case rel =>
              obtain ⟨f1, f2, f3⟩ := ins_ok HP.out HW.out HD.out HBIG.out (by rw [HNIL.out]; intro y hy; simp at hy) HI.out
              exact ⟨k + 1, by omega, by go_num, _, _, _, _, rfl, by rw [f3, HN.out], by omega, f1, f2, HOWN.out, dnBelow HBEL.out _⟩
          · obtain ⟨p, rfl⟩ : ∃ p, q = p + 1 := ⟨q - 1, by omega⟩
            obtain ⟨a, y, rfl⟩ : ∃ a' y, a = a' ++ [y] := ⟨a.dropLast, a.getLast (by intro e; rw [e] at ha; simp at ha), (List.dropLast_concat_getLast _).symm⟩
            have hap : a.length = p := by simpa using ha
            have hcells := (cells_of_ownK HOWN.out).2 (by rw [rIt_len]; simp; omega)
            obtain ⟨b3, o3, he3, _, hc3⟩ := hcells
            simp only [Option.some.injEq, Addr.mk.injEq, and_true] at he3
            obtain ⟨rfl, rfl⟩ := he3
            have hy1 := rIt_at (l := (a ++ [y]) ++ (x, k) :: b) (i := p) (x := y) (by rw [List.append_assoc, List.getElem?_append_right (by omega), hap]; simp)
            have hx1 := rIt_at (l := (a ++ [y]) ++ (x, k) :: b) (i := p + 1) (x := (x, k)) (by rw [List.getElem?_append_right (by simp; omega)]; simp [hap])
            obtain ⟨q, hq⟩ : ∃ q, p + 1 = q := ⟨_, rfl⟩
            rw [hq] at hx1 ha hqn ⊢
            have y0 : wr.cell? ⟨g, p * 2, none⟩ = some (.int .i64 (y.2 : Int)) := by have := hc3 _ _ hy1.1; rwa [Nat.zero_add] at this
            have y1 : wr.cell? ⟨g, p * 2 + 1, none⟩ = some (.int .i64 (y.1 : Int)) := by have := hc3 _ _ hy1.2; rwa [Nat.zero_add] at this
            have x0 : wr.cell? ⟨g, q * 2, none⟩ = some (.int .i64 (k : Int)) := by have := hc3 _ _ hx1.1; rwa [Nat.zero_add] at this
            have x1 : wr.cell? ⟨g, q * 2 + 1, none⟩ = some (.int .i64 (x : Int)) := by have := hc3 _ _ hx1.2; rwa [Nat.zero_add] at this
            have hn1 : decide (0 < q) = true := by simp; omega
            have hn2 : decide ((0 : Int) < (q : Int)) = true := by simp; omega
            have hqp : (q : Int) - 1 = (p : Int) := by omega
            have hwp : IntKind.i64.wrap ((q : Int) - 1) = (p : Int) := by rw [hqp]; exact IntWalk.i64_in _ (by omega)
            have hp1 : (p : Int) < ((n + 1 : Nat) : Int) := by omega
            have hq1 : (q : Int) < ((n + 1 : Nat) : Int) := by omega
            have hp0 : (0 : Int) ≤ (p : Int) := by omega
            have HAP := Lib.hid hap
            have HQ := Lib.hid hq
            have HY1 := Lib.hid hy1
            obtain ⟨yw, ys⟩ := y
            dsimp only at y0 y1
            clear hc3 hy1 hx1 ha hap hq hq0
            by_cases hxy : x < yw
            · have hv1 : decide (x < yw) = true := by simp; omega
              have hv2 : decide ((x : Int) < (yw : Int)) = true := by simp; omega
              have HXY := Lib.hid hxy
              clear hxy
              go_wp2
              go_quiet (fail)
              obtain ⟨W, hW⟩ : ∃ W, wr.drewN nq = W := ⟨_, rfl⟩
              have HOW2 : Hid (W.ownsRow w.heap.size 234 2 (.slice (some ⟨g, 0, none⟩) (n + 1) c') (n + 1) (((a ++ [(yw, ys)]) ++ (x, k) :: b).flatMap rItE)) := by show World.ownsRow _ _ _ _ _ _ _; rw [← hW]; exact HOWN.out
              have HBW2 : Hid (Below w.heap.size w W) := by show Below _ _ _; rw [← hW]; exact dnBelow HBEL.out nq
              have e0 : W.cell? ⟨g, q * 2, none⟩ = some (.int .i64 (k : Int)) := by rw [← hW]; exact x0
              have e1 : W.cell? ⟨g, q * 2 + 1, none⟩ = some (.int .i64 (x : Int)) := by rw [← hW]; exact x1
              have z0 : W.cell? ⟨g, p * 2, none⟩ = some (.int .i64 (ys : Int)) := by rw [← hW]; exact y0
              have z1 : W.cell? ⟨g, p * 2 + 1, none⟩ = some (.int .i64 (yw : Int)) := by rw [← hW]; exact y1
              rw [hW]
              clear hW x0 x1 y0 y1
              obtain ⟨bx, hbx⟩ : ∃ bx, W.heap.size = bx := ⟨_, rfl⟩
              have HLT : Hid (g < bx) := by show _ < _; rw [← hbx]; exact World.block_lt_of_cell? W _ e0
              obtain ⟨V, hV⟩ : ∃ V, W.alloc (.cells #[.int .i64 (k : Int), .int .i64 (x : Int)] 234) = V := ⟨_, rfl⟩
              have HBX : Hid (V.heap[bx]? = some (.cells #[.int .i64 (k : Int), .int .i64 (x : Int)] 234 (0, 0))) := by show _ = _; rw [← hV, ← hbx]; exact heap_alloc_new W _
              have HOV : Hid (V.ownsRow w.heap.size 234 2 (.slice (some ⟨g, 0, none⟩) (n + 1) c') (n + 1) (((a ++ [(yw, ys)]) ++ (x, k) :: b).flatMap rItE)) := by show World.ownsRow _ _ _ _ _ _ _; rw [← hV]; exact HOW2.out.alloc _
              have HBV : Hid (Below w.heap.size w V) := by show Below _ _ _; rw [← hV]; exact HBW2.out.alloc HBW2.out.size _
              have v0 : V.cell? ⟨g, q * 2, none⟩ = some (.int .i64 (k : Int)) := by rw [← hV]; exact (World.cell?_alloc_lt W _ _ (by rw [hbx]; exact HLT.out)).trans e0
              have v1 : V.cell? ⟨g, q * 2 + 1, none⟩ = some (.int .i64 (x : Int)) := by rw [← hV]; exact (World.cell?_alloc_lt W _ _ (by rw [hbx]; exact HLT.out)).trans e1
              have u0 : V.cell? ⟨g, p * 2, none⟩ = some (.int .i64 (ys : Int)) := by rw [← hV]; exact (World.cell?_alloc_lt W _ _ (by rw [hbx]; exact HLT.out)).trans z0
              have u1 : V.cell? ⟨g, p * 2 + 1, none⟩ = some (.int .i64 (yw : Int)) := by rw [← hV]; exact (World.cell?_alloc_lt W _ _ (by rw [hbx]; exact HLT.out)).trans z1
              have hfz : ∀ j, V.frozen? ⟨g, j, none⟩ = false := fun j => own_free HOV.out j
              have f0 := hfz (q * 2)
              have f1 := hfz (q * 2 + 1)
              obtain ⟨V1, hV1⟩ : ∃ V1, (V.setCell ⟨g, q * 2, none⟩ (.int .i64 (ys : Int))).setCell ⟨g, q * 2 + 1, none⟩ (.int .i64 (yw : Int)) = V1 := ⟨_, rfl⟩
              have HO1 : Hid (V1.ownsRow w.heap.size 234 2 (.slice (some ⟨g, 0, none⟩) (n + 1) c') (n + 1) (((((a ++ [(yw, ys)]) ++ (x, k) :: b).flatMap rItE).set (q * 2) (.int .i64 (ys : Int))).set (q * 2 + 1) (.int .i64 (yw : Int)))) := by show World.ownsRow _ _ _ _ _ _ _; rw [← hV1]; exact own_setK (own_setK HOV.out)
              have HBV1 : Hid (Below w.heap.size w V1) := by show Below _ _ _; rw [← hV1]; exact (HBV.out.setCell (p := ⟨g, q * 2, none⟩) (HOV.out.lt g rfl).1 _).setCell (p := ⟨g, q * 2 + 1, none⟩) (HOV.out.lt g rfl).1 _
              have hk1 : V1.heap[bx]? = V.heap[bx]? := by rw [← hV1]; exact (Below.heap_setCell _ ⟨g, q * 2 + 1, none⟩ _ bx (by have := HLT.out; show bx ≠ g; omega)).trans (Below.heap_setCell _ ⟨g, q * 2, none⟩ _ bx (by have := HLT.out; show bx ≠ g; omega))
              have b0 : V1.cell? ⟨bx, 0, none⟩ = some (.int .i64 (k : Int)) := by rw [cell_of_row V1 bx 0 _ _ _ (hk1.trans HBX.out)]; rfl
              have b1 : V1.cell? ⟨bx, 1, none⟩ = some (.int .i64 (x : Int)) := by rw [cell_of_row V1 bx 1 _ _ _ (hk1.trans HBX.out)]; rfl
              have f2 : V1.frozen? ⟨g, p * 2, none⟩ = false := own_free HO1.out _
              have f3 : V1.frozen? ⟨g, p * 2 + 1, none⟩ = false := own_free HO1.out _
              obtain ⟨b5, o5, he5, _, hc5⟩ := (cells_of_ownK HO1.out).2 (by rw [List.length_set, List.length_set, rIt_len]; simp; omega)
              simp only [Option.some.injEq, Addr.mk.injEq, and_true] at he5
              obtain ⟨rfl, rfl⟩ := he5
              have t0 : V1.cell? ⟨g, p * 2, none⟩ = some (.int .i64 (ys : Int)) := by
                have := hc5 (p * 2) _ (by rw [List.getElem?_set_ne (by have := HQ.out; omega), List.getElem?_set_ne (by have := HQ.out; omega)]; exact HY1.out.1)
                rwa [Nat.zero_add] at this
              have t1 : V1.cell? ⟨g, p * 2 + 1, none⟩ = some (.int .i64 (yw : Int)) := by
                have := hc5 (p * 2 + 1) _ (by rw [List.getElem?_set_ne (by have := HQ.out; omega), List.getElem?_set_ne (by have := HQ.out; omega)]; exact HY1.out.2)
                rwa [Nat.zero_add] at this
              clear hc5
              clear hfz hk1
              go_wp2
              go_roundg (p)
              case measure => omega
              case rel =>
                have hq := HQ.out
                have hap := HAP.out
                have ho := own_setK (j := p * 2 + 1) (u := .int .i64 (x : Int)) (own_setK (j := p * 2) (u := .int .i64 (k : Int)) HO1.out)
                have hg := (HO1.out.lt g rfl).1
                refine ⟨p, a, (yw, ys) :: b, rfl, rfl, hap, by omega, by rw [HD.out]; simp, fun z hz => ?_, ?_, (HBV1.out.setCell (p := ⟨g, p * 2, none⟩) hg _).setCell (p := ⟨g, p * 2 + 1, none⟩) hg _⟩
                · rcases List.mem_cons.1 hz with rfl | hz
                  · exact HXY.out
                  · exact HBIG.out z hz
                · have e1 : ((a ++ [(yw, ys)]) ++ (x, k) :: b).flatMap rItE = a.flatMap rItE ++ .int .i64 (ys : Int) :: .int .i64 (yw : Int) :: .int .i64 (k : Int) :: .int .i64 (x : Int) :: b.flatMap rItE := by simp [rItE]
                  have e2 : (a ++ (x, k) :: (yw, ys) :: b).flatMap rItE = a.flatMap rItE ++ .int .i64 (k : Int) :: .int .i64 (x : Int) :: .int .i64 (ys : Int) :: .int .i64 (yw : Int) :: b.flatMap rItE := by simp [rItE]
                  rw [e1, show q * 2 = p * 2 + 2 by omega, show p * 2 + 2 + 1 = p * 2 + 3 by omega, set4 _ _ _ _ _ _ _ _ _ _ _ (by rw [rIt_len, hap])] at ho
                  rw [e2]
                  exact ho
            · have hv1 : decide (x < yw) = false := by simp; omega
              have hv2 : decide ((x : Int) < (yw : Int)) = false := by simp; omega
              have HXY := Lib.hid hxy
              clear hxy
              go_wp2
              go_quiet (fail)
              go_wp2
              go_roundg (GK - 1)
              case measure => omega
              case rel =>
                obtain ⟨f1, f2, f3⟩ := ins_ok HP.out HW.out HD.out HBIG.out (ins_last HW.out HD.out (by dsimp only; have := HXY.out; omega)) HI.out
                exact ⟨k + 1, by omega, by go_num, _, _, _, _, rfl, by rw [f3, HN.out], by omega, f1, f2, HOWN.out, dnBelow HBEL.out _⟩
    · obtain rfl : k = l := by omega
      go_wp2
      go_ret
      have he : d = itemsW ns := by
        have h1 := HP.out
        rw [← HL.out] at h1
        exact sortW_uniq h1 HW.out
      exact ⟨A1, n, c1, rfl, by rw [← he]; exact HN.out, by rw [← he]; exact HOWN.out, HBEL.out⟩
end Go.Proofs.YtaknladkodibaaaGreatDoor
/- Layer 7: the reference's rows. -/
namespace Go.Proofs.YtaknladkodibaaaGreatDoor
open Go.RowKit

/-- Blocks of ints stay. -/
def KI (w w' : World) : Prop := ∀ (b : Nat) (cur : Array Value), w.heap[b]? = some (Obj.cells cur 3 (0, 0)) → w'.heap[b]? = some (Obj.cells cur 3 (0, 0))
theorem KI.refl (w : World) : KI w w := fun _ _ h => h
theorem KI.trans {a b c : World} (h : KI a b) (k : KI b c) : KI a c := fun j cur hj => k j cur (h j cur hj)
theorem KI.below {w w' : World} (h : Below w.heap.size w w') : KI w w' := fun b _ hb => (h.block b (Array.getElem?_eq_some_iff.1 hb).1).trans hb
theorem KI.alloc (w : World) (o : Obj) : KI w (w.alloc o) := KI.below ((Below.refl _ w).alloc (Nat.le_refl _) o)
theorem KI.drewN (w : World) (n : Nat) : KI w (w.drewN n) := fun _ _ h => h
theorem KI.app {w w' : World} {base : Nat} {e : TypeId} {size n : Nat} {v v' : Value} {xs : List Value} {n0 : Nat} {xs0 : List Value} (ho : w.ownsRow base e size v n0 xs0) (h : App w base e size v n xs w' v') (hne : e ≠ 3) : KI w w' := fun _ _ hb =>
  (Mod.of_app h).keep hb (own_ne ho hb hne)
/-- Ints in memory, in a block of ints. -/
def HasI (N : Nat) (w : World) (A : Option Addr) (xs : List Value) : Prop := 0 < xs.length → ∃ (b o : Nat) (cur : Array Value), A = some ⟨b, o, none⟩ ∧ N ≤ b ∧ w.heap[b]? = some (.cells cur 3 (0, 0)) ∧ ∀ j u, xs[j]? = some u → cur[o + j]? = some u
theorem HasI.keep {N : Nat} {w w' : World} {A : Option Addr} {xs : List Value} (h : HasI N w A xs) (hk : KI w w') : HasI N w' A xs := fun hp => by
  obtain ⟨b, o, cur, e, hN, h1, h2⟩ := h hp
  exact ⟨b, o, cur, e, hN, hk b cur h1, h2⟩
theorem HasI.cells {N : Nat} {w : World} {A : Option Addr} {xs : List Value} (h : HasI N w A xs) : Cells w w.heap.size A xs := fun hp => by
  obtain ⟨b, o, cur, e, _, h1, h2⟩ := h hp
  exact ⟨b, o, e, (Array.getElem?_eq_some_iff.1 h1).1, fun j u hu => by rw [cell_of_row _ _ _ _ _ _ h1]; exact h2 j u hu⟩
theorem HasI.own {N : Nat} {w : World} {base n c : Nat} {A : Option Addr} {xs : List Value} (h : w.ownsRow base 3 1 (.slice A n c) n xs) (hN : N ≤ base) : HasI N w A xs := fun hp => by
  rcases h.2 with ⟨_, h3⟩ | ⟨g, cap, cur, hv, hg, hh, hnc, hcm, hcs, htake⟩
  · have := h.1; omega
  · simp only [Value.slice.injEq] at hv
    obtain ⟨rfl, _, rfl⟩ := hv
    refine ⟨g, 0, cur, rfl, Nat.le_trans hN hg, hh, fun j u hu => ?_⟩
    rw [← htake] at hu
    have hlt := (List.getElem?_eq_some_iff.1 hu).1
    rw [List.length_take] at hlt
    rw [List.getElem?_take_of_lt (by omega)] at hu
    simpa using hu
/-- The cells of an element of the reference's. -/
def EH (N : Nat) (w : World) (x : WE) (cs : List Value) : Prop := ∃ A c, cs = [.int .i64 (x.1 : Int), .slice A x.2.length c] ∧ HasI N w A (nCs x.2)
theorem EH.keep {N : Nat} {w w' : World} {x : WE} {cs : List Value} (h : EH N w x cs) (hk : KI w w') : EH N w' x cs := by
  obtain ⟨A, c, e, h⟩ := h
  exact ⟨A, c, e, h.keep hk⟩
/-- The cells of a row of these. -/
def RowH (N : Nat) (w : World) (xs : List WE) (cs : List Value) : Prop := ∃ E : List (WE × List Value), E.map (·.1) = xs ∧ E.flatMap (·.2) = cs ∧ ∀ e ∈ E, EH N w e.1 e.2
theorem RowH.nil (N : Nat) (w : World) : RowH N w [] [] := ⟨[], rfl, rfl, fun _ h => by simp at h⟩
theorem RowH.keep {N : Nat} {w w' : World} {xs : List WE} {cs : List Value} (h : RowH N w xs cs) (hk : KI w w') : RowH N w' xs cs := by
  obtain ⟨E, e1, e2, h⟩ := h
  exact ⟨E, e1, e2, fun e he => (h e he).keep hk⟩
theorem RowH.snoc {N : Nat} {w : World} {xs : List WE} {cs : List Value} {x : WE} {c : List Value} (h : RowH N w xs cs) (hx : EH N w x c) : RowH N w (xs ++ [x]) (cs ++ c) := by
  obtain ⟨E, rfl, rfl, h⟩ := h
  refine ⟨E ++ [(x, c)], by simp, by simp, fun e he => ?_⟩
  rcases List.mem_append.1 he with he | he
  · exact h e he
  · rw [List.mem_singleton.1 he]
    exact hx
theorem RowH.cons {N : Nat} {w : World} {x : WE} {xs : List WE} {cs : List Value} (h : RowH N w (x :: xs) cs) : ∃ c d, cs = c ++ d ∧ EH N w x c ∧ RowH N w xs d := by
  obtain ⟨E, e1, rfl, h⟩ := h
  cases E with
  | nil => simp at e1
  | cons e E =>
    simp only [List.map_cons, List.cons.injEq] at e1
    obtain ⟨rfl, rfl⟩ := e1
    exact ⟨e.2, E.flatMap (·.2), by simp, h e (by simp), E, rfl, rfl, fun e' he => h e' (by simp [he])⟩
theorem EH.two {N : Nat} {w : World} {x : WE} {cs : List Value} (h : EH N w x cs) : cs.length = 2 := by
  obtain ⟨A, c, rfl, _⟩ := h
  rfl
theorem RowH.len {N : Nat} {w : World} : ∀ {xs : List WE} {cs : List Value}, RowH N w xs cs → cs.length = xs.length * 2
  | [], cs, h => by
    obtain ⟨E, e1, rfl, _⟩ := h
    rw [List.map_eq_nil_iff.1 e1]
    rfl
  | x :: xs, cs, h => by
    obtain ⟨c, d, rfl, hx, hr⟩ := h.cons
    rw [List.length_append, hx.two, hr.len, List.length_cons]
    omega
theorem RowH.at_ {N : Nat} {w : World} : ∀ {xs : List WE} {cs : List Value} {i : Nat} {x : WE}, RowH N w xs cs → xs[i]? = some x → ∃ A c, cs[i * 2]? = some (.int .i64 (x.1 : Int)) ∧ cs[i * 2 + 1]? = some (.slice A x.2.length c) ∧ HasI N w A (nCs x.2)
  | [], _, _, _, _, h => by simp at h
  | y :: xs, cs, i, x, hr, h => by
    obtain ⟨c, d, rfl, hx, hr⟩ := hr.cons
    cases i with
    | zero =>
      obtain rfl : y = x := by simpa using h
      obtain ⟨A, c', rfl, hc⟩ := hx
      exact ⟨A, c', rfl, rfl, hc⟩
    | succ i =>
      obtain ⟨A, c', h1, h2, h3⟩ := hr.at_ (i := i) (by simpa using h)
      refine ⟨A, c', ?_, ?_, h3⟩
      · rw [List.getElem?_append_right (by rw [hx.two]; omega), hx.two, show (i + 1) * 2 - 2 = i * 2 by omega]
        exact h1
      · rw [List.getElem?_append_right (by rw [hx.two]; omega), hx.two, show (i + 1) * 2 + 1 - 2 = i * 2 + 1 by omega]
        exact h2
theorem RowH.one {N : Nat} {w : World} {xs : List WE} {cs : List Value} (h : RowH N w xs cs) : ∀ u ∈ cs, u.oneCell' = true := by
  obtain ⟨E, _, rfl, h⟩ := h
  intro u hu
  obtain ⟨e, he, hu⟩ := List.mem_flatMap.1 hu
  obtain ⟨A, c, hc, _⟩ := h e he
  rw [hc] at hu
  simp only [List.mem_cons, List.not_mem_nil, or_false] at hu
  rcases hu with rfl | rfl <;> rfl
theorem eElem : Elem Tryz.prog 235 238 (.agg #[.int .i64 0, .slice none 0 0]) 2 32 := Elem.of Tryz.underlying235 (by kernel_rfl) (by kernel_rfl) (by omega)
theorem wIntElem : Elem Tryz.prog 156 3 (.int .i64 0) 1 8 := Elem.of Tryz.underlying156 (by kernel_rfl) (by kernel_rfl) (by omega)
/-- Items by their places, as the first row. -/
def firstP (its : List (Nat × Nat)) : List WE := its.zipIdx.map fun p => (p.1.1, [p.2])
theorem firstP_len (its : List (Nat × Nat)) : (firstP its).length = its.length := by simp [firstP]
theorem firstP_at {its : List (Nat × Nat)} {i : Nat} {x : Nat × Nat} (h : its[i]? = some x) : (firstP its)[i]? = some (x.1, [i]) := by
  simp [firstP, h]
theorem firstP_drop {its : List (Nat × Nat)} {i : Nat} {x : Nat × Nat} (h : its[i]? = some x) : (firstP its).drop i = (x.1, [i]) :: (firstP its).drop (i + 1) := by
  obtain ⟨h1, h2⟩ := List.getElem?_eq_some_iff.1 (firstP_at h)
  rw [List.drop_eq_getElem_cons h1, h2]
end Go.Proofs.YtaknladkodibaaaGreatDoor
/- Layer 7: the reference's Row. -/
namespace Go.Proofs.YtaknladkodibaaaGreatDoor
open Go.RowKit

theorem step_app1w {P : Program} (w : World) {ops : Array Oper} {o : Oper} {a : Act} {K : Act → World → Prop} {Q : Exit → Act → World → Prop} {F : Prop} {t e : TypeId} {z : Value} {size bytes : Nat} (E : Elem P t e z size bytes) (hgd : o.guard = none) (s x : Operand)
    (ho : o.op = .call { callee := .builtin .append, args := #[s, x], argTypes := #[t, t] }) (base : Nat)
    (v : Value) (n : Nat) (xs : List Value) (hs : a.eval s = v) (hown : w.ownsRow base e size v n xs)
    (C : Array Value) (hx : a.eval x = .slice (some ⟨w.heap.size, 0, none⟩) 1 1) (hC : C.size = size) (h1 : ∀ u ∈ C.toList, u.oneCell' = true)
    (h63 : n + 1 ≤ maxLen) (hbytes : (n + 1) * bytes ≤ 140737488355328) (hbase : base ≤ w.heap.size)
    (h : ∀ A' c' w', App w base e size v (n + 1) (xs ++ C.toList) w' (.slice A' (n + 1) c') → K (a.put o.dst (.slice A' (n + 1) c')) w') :
    if Region.wanted o (yielded ops a.tmps) = true then Oper.wp P o a (w.alloc (.cells C e)) K Q else F := by
  refine step_app (w.alloc (.cells C e)) E hgd s x ho base v n xs hs (hown.alloc _) (w.heap.size + 1) (some ⟨w.heap.size, 0, none⟩) 1 1 C.toList hx (by rw [Nat.one_mul]; exact hC) ?_ h1 h63 hbytes (by simp; omega)
    (fun A' c' w' hA => h A' c' w' hA.behind)
  refine fun _ => ⟨_, 0, rfl, Nat.lt_succ_self _, fun j u hu => ?_⟩
  rw [cell_of_row _ _ _ _ _ _ (heap_alloc_new w _)]
  simpa using hu
set_option maxRecDepth 100000 in
set_option maxHeartbeats 4000000 in
theorem refRow7_any (A1 A2 : Option Addr) (l1 c1 l2 c2 : Nat) (its : List (Nat × Nat)) (row : List WE) (cs2 : List Value) (B : Nat) (w : World) (h1 : its.length = l1) (h2 : row.length = l2) (hm1 : l1 ≤ 1000) (hm2 : l2 ≤ 2000) (hB : B ≤ w.heap.size)
    (hc1 : Cells w B A1 (its.flatMap rItE)) (hc2 : Cells w B A2 cs2) (N : Nat) (hN : N ≤ w.heap.size) (hr : RowH N w row cs2) (hbd : ∀ x ∈ row, x.1 ≤ 1125899906842624 ∧ x.2.length ≤ 1000000) :
    Calls Tryz.prog 164 #[.slice A1 l1 c1, .slice A2 l2 c2] w fun e w' => ∃ A' n' c' cs', e = .returned (.slice A' n' c') ∧ n' = (mgW (firstP its) (prW row)).length ∧ w'.ownsRow w.heap.size 238 2 (.slice A' n' c') n' cs' ∧ RowH N w' (mgW (firstP its) (prW row)) cs' ∧ Below w.heap.size w w' := by
  have HC1 := Lib.hid hc1
  have HC2 := Lib.hid hc2
  have HR := Lib.hid hr
  have HL1 := Lib.hid h1
  have HL2 := Lib.hid h2
  have HBD := Lib.hid hbd
  obtain ⟨pr, hpr⟩ : ∃ pr, prW row = pr := ⟨_, rfl⟩
  have HPR := Lib.hid hpr
  have HPL : Hid (pr.length = l2 / 2) := by show _ = _; rw [← hpr, prW_len, h2]
  rw [hpr]
  clear hc1 hc2 hr h1 h2 hbd hpr
  go_enter Tryz.func164, Tryz.ntmps164
  go_wp2
  go_loopg [5, 6, 7] l2 (fun gk v i kk wr => ∃ (j q p : Nat), j + gk = l2 ∧ q = 2 * j ∧ q ≤ l2 ∧ kk = .int .i64 q ∧ i = .int .i64 p ∧ p ≤ l1 ∧ ∃ (A' : Option Addr) (n' c' : Nat) (acc : List WE) (cs' : List Value), v = .slice A' n' c' ∧ n' = acc.length ∧ n' = p + j ∧
    wr.ownsRow w.heap.size 238 2 (.slice A' n' c') n' cs' ∧ RowH N wr acc cs' ∧ mgW (firstP its) pr = acc ++ mgW ((firstP its).drop p) (pr.drop j) ∧ Below w.heap.size w wr)
  case atStart => exact ⟨0, 0, 0, by omega, rfl, Nat.zero_le _, rfl, rfl, Nat.zero_le _, none, 0, 0, [], [], rfl, rfl, rfl, World.ownsRow_nil _ _ _ _, RowH.nil _ _, rfl, Below.refl _ _⟩
  case round =>
    obtain ⟨j, q, p, hj, hq, hql, rfl, rfl, hpl, A', n', c', acc, cs', rfl, hna, hnp, hown, hrow, heq, hbel⟩ := hrel
    have HOWN := Lib.hid hown
    have HROW := Lib.hid hrow
    have HEQ := Lib.hid heq
    have HBEL := Lib.hid hbel
    have HQ := Lib.hid hq
    have HNA := Lib.hid hna
    have HNP := Lib.hid hnp
    have hnl : n' ≤ 3000 := by omega
    clear hown hrow heq hbel hq hna hnp
    by_cases h : q + 1 < l2
    · have hlt : decide ((q : Int) < (l2 : Int) - 1) = true := by simp; omega
      obtain ⟨a, ha⟩ : ∃ a, row[q]? = some a := ⟨_, List.getElem?_eq_getElem (by have := HL2.out; omega)⟩
      obtain ⟨b, hb⟩ : ∃ b, row[q + 1]? = some b := ⟨_, List.getElem?_eq_getElem (by have := HL2.out; omega)⟩
      obtain ⟨bb, o, rfl, hbB, hcc⟩ := (HC2.out.below HBEL.out hB) (by rw [HR.out.len, HL2.out]; omega)
      obtain ⟨Aa, ca, ha1, ha2, ha3⟩ := HR.out.at_ ha
      obtain ⟨Ab, cb, hb1, hb2, hb3⟩ := HR.out.at_ hb
      obtain ⟨t, ht⟩ : ∃ t, q + 1 = t := ⟨_, rfl⟩
      rw [ht] at hb1 hb2
      have d0 : wr.cell? ⟨bb, o + q * 2, none⟩ = some (.int .i64 (a.1 : Int)) := hcc _ _ ha1
      have d1 : wr.cell? ⟨bb, o + q * 2 + 1, none⟩ = some (.slice Aa a.2.length ca) := by rw [Nat.add_assoc]; exact hcc _ _ ha2
      have d2 : wr.cell? ⟨bb, o + t * 2, none⟩ = some (.int .i64 (b.1 : Int)) := hcc _ _ hb1
      have d3 : wr.cell? ⟨bb, o + t * 2 + 1, none⟩ = some (.slice Ab b.2.length cb) := by rw [Nat.add_assoc]; exact hcc _ _ hb2
      have hwa := HBD.out a (List.mem_of_getElem? ha)
      have hwb := HBD.out b (List.mem_of_getElem? hb)
      have HPJ : Hid (pr.drop j = (a.1 + b.1, a.2 ++ b.2) :: pr.drop (j + 1)) := by
        show _ = _
        have h3 : pr[j]? = some (a.1 + b.1, a.2 ++ b.2) := by rw [← HPR.out]; exact pr_at (by rw [← HQ.out]; exact ha) (by rw [← HQ.out]; exact hb)
        obtain ⟨h4, h5⟩ := List.getElem?_eq_some_iff.1 h3
        rw [List.drop_eq_getElem_cons h4, h5]
      have HA3 := Lib.hid ha3
      have HB3 := Lib.hid hb3
      have HT := Lib.hid ht
      have hqt : (q : Int) + 1 = (t : Int) := by omega
      have hqw : IntKind.i64.wrap ((q : Int) + 1) = (t : Int) := by rw [hqt]; exact IntWalk.i64_in _ (by omega)
      have htw : IntKind.i64.wrap (t : Int) = (t : Int) := IntWalk.i64_in _ (by omega)
      have hq0 : (0 : Int) ≤ (q : Int) := by omega
      have hq1 : (q : Int) < (l2 : Int) := by omega
      have ht0 : (0 : Int) ≤ (t : Int) := by omega
      have ht1 : (t : Int) < (l2 : Int) := by omega
      have hwx : IntKind.i64.wrap ((a.1 : Int) + (b.1 : Int)) = ((a.1 + b.1 : Nat) : Int) := by rw [Int.natCast_add]; exact IntWalk.i64_in _ (by omega)
      obtain ⟨aw, al⟩ := a
      obtain ⟨bw, bl⟩ := b
      dsimp only at *
      obtain ⟨na, hna⟩ : ∃ na, al.length = na := ⟨_, rfl⟩
      obtain ⟨nb, hnb⟩ : ∃ nb, bl.length = nb := ⟨_, rfl⟩
      rw [hna] at d1 hwa
      rw [hnb] at d3 hwb
      have HNA2 := Lib.hid hna
      have HNB2 := Lib.hid hnb
      obtain ⟨s, hs⟩ : ∃ s, aw + bw = s := ⟨_, rfl⟩
      rw [hs] at HPJ hwx
      have HS := Lib.hid hs
      have hsb : s ≤ 2251799813685248 := by omega
      have HD : Hid (∀ W, Below w.heap.size w W → W.cell? ⟨bb, o + q * 2 + 1, none⟩ = some (.slice Aa na ca) ∧ W.cell? ⟨bb, o + t * 2 + 1, none⟩ = some (.slice Ab nb cb)) := fun W hW => by
        obtain ⟨b', o', he, _, hcc'⟩ := (HC2.out.below hW hB) (by rw [HR.out.len, HL2.out]; omega)
        simp only [Option.some.injEq, Addr.mk.injEq, and_true] at he
        obtain ⟨rfl, rfl⟩ := he
        have h1 := hcc' _ _ ha2
        have h2 := hcc' _ _ hb2
        rw [hna, ← Nat.add_assoc] at h1
        rw [hnb, ← Nat.add_assoc] at h2
        exact ⟨h1, h2⟩
      clear ha hb hcc ha1 ha2 ha3 hb1 hb2 hb3 ht hna hnb hs
      go_wp2
      go_quiet (fail)
      go_wp2
      obtain ⟨W0, hW0⟩ : ∃ W0, wr.drewN nq = W0 := ⟨_, rfl⟩
      have HOW0 : Hid (W0.ownsRow w.heap.size 238 2 (.slice A' n' c') n' cs') := by show World.ownsRow _ _ _ _ _ _ _; rw [← hW0]; exact HOWN.out
      have HRO0 : Hid (RowH N W0 acc cs') := by show RowH _ _ _ _; rw [← hW0]; exact HROW.out.keep (KI.drewN wr nq)
      have HBE0 : Hid (Below w.heap.size w W0) := by show Below _ _ _; rw [← hW0]; exact dnBelow HBEL.out nq
      rw [hW0]
      clear hW0 d0 d1 d2 d3 HOWN HROW HBEL
      obtain ⟨GK, hGK⟩ : ∃ GK, GK = gk := ⟨_, rfl⟩
      subst hGK
      go_loopg [5, 6] (l1 - p) (fun gi v i wi => ∃ p : Nat, p + gi = l1 ∧ i = .int .i64 p ∧ ∃ (A' : Option Addr) (n' c' : Nat) (acc : List WE) (cs' : List Value), v = .slice A' n' c' ∧ n' = acc.length ∧ n' = p + j ∧
        wi.ownsRow w.heap.size 238 2 (.slice A' n' c') n' cs' ∧ RowH N wi acc cs' ∧ mgW (firstP its) pr = acc ++ mgW ((firstP its).drop p) ((s, al ++ bl) :: pr.drop (j + 1)) ∧ Below w.heap.size w wi)
      case atStart => exact ⟨p, by omega, rfl, A', n', c', acc, cs', rfl, HNA.out, HNP.out, HOW0.out, HRO0.out, by rw [← HPJ.out]; exact HEQ.out, HBE0.out⟩
      case round =>
        clear HOW0 HRO0 HEQ HNA HNP HBE0 hpl hnl
        obtain ⟨p, hp, rfl, A', n', c', acc, cs', rfl, hna, hnp, hown, hrow, heq, hbel⟩ := hrel
        have HOWN := Lib.hid hown
        have HROW := Lib.hid hrow
        have HEQ := Lib.hid heq
        have HBEL := Lib.hid hbel
        have HNA := Lib.hid hna
        have HNP := Lib.hid hnp
        have hnl : n' ≤ 3000 := by omega
        clear hown hrow heq hbel hna hnp
        by_cases hpl : p < l1
        · obtain ⟨x, hx⟩ : ∃ x, its[p]? = some x := ⟨_, List.getElem?_eq_getElem (by have := HL1.out; omega)⟩
          obtain ⟨b1, o1, rfl, hb1B, hcc1⟩ := (HC1.out.below HBEL.out hB) (by rw [rIt_len, HL1.out]; omega)
          obtain ⟨hx0, hx1⟩ := rIt_at hx
          have x1 : wr.cell? ⟨b1, o1 + p * 2 + 1, none⟩ = some (.int .i64 (x.1 : Int)) := by rw [Nat.add_assoc]; exact hcc1 _ _ hx1
          have HDR := Lib.hid (firstP_drop hx)
          have hp1 : decide ((p : Int) < (l1 : Int)) = true := by simp; omega
          have hp2 : decide (p < l1) = true := by simp; omega
          obtain ⟨xw, xs⟩ := x
          dsimp only at *
          clear hx hcc1 hx0 hx1
          by_cases hxs : xw ≤ s
          · have hc3 : decide ((xw : Int) ≤ (s : Int)) = true := by simp; omega
            have hc4 : decide (xw ≤ s) = true := by simp; omega
            have HXS := Lib.hid hxs
            clear hxs
            obtain ⟨W1, hW1⟩ : ∃ W1, wr.alloc (.cells #[.int .i64 (p : Int)] 3) = W1 := ⟨_, rfl⟩
            obtain ⟨h, hh⟩ : ∃ h, wr.heap.size = h := ⟨_, rfl⟩
            have HOW1 : Hid (W1.ownsRow w.heap.size 238 2 (.slice A' n' c') n' cs') := by show World.ownsRow _ _ _ _ _ _ _; rw [← hW1]; exact HOWN.out.alloc _
            have HK1 : Hid (KI wr W1) := by show KI _ _; rw [← hW1]; exact KI.alloc _ _
            have HBE1 : Hid (Below w.heap.size w W1) := by show Below _ _ _; rw [← hW1]; exact HBEL.out.alloc HBEL.out.size _
            have HH1 : Hid (W1.heap[h]? = some (.cells #[.int .i64 (p : Int)] 3 (0, 0))) := by show _ = _; rw [← hW1, ← hh]; exact heap_alloc_new wr _
            go_wp2_with (at_builtin; refine wpList_app1 W1 eElem rfl (.tmp 41) (.tmp 50) rfl w.heap.size (.slice A' n' c') n' cs' rfl HOW1.out _ rfl rfl (by simp [Value.oneCell']) (by unfold maxLen; omega) (by omega) HBE1.out.size ?_; intro A4 c4 w7 hA; have HA := Lib.hid hA; clear hA)
            go_roundg (gk - 1)
            case measure => omega
            case rel =>
              have HB7 : Below w.heap.size w w7 := HA.out.below HBE1.out HBE1.out.size (own_base HOW1.out)
              have hk7 : KI W1 w7 := KI.app HOW1.out HA.out (by decide)
              have heh : EH N w7 (xw, [p]) [.int .i64 (xw : Int), .slice (some ⟨h, 0, none⟩) 1 1] := ⟨some ⟨h, 0, none⟩, 1, rfl, fun _ => ⟨h, 0, _, rfl, by rw [← hh]; exact Nat.le_trans hN HBEL.out.size, hk7 _ _ HH1.out, fun j u hu => by
                rw [Nat.zero_add]
                simpa [nCs] using hu⟩⟩
              refine ⟨p + 1, by omega, by go_num, A4, n' + 1, c4, acc ++ [(xw, [p])], _, rfl, by rw [List.length_append, ← HNA.out]; rfl, by have := HNP.out; omega, HA.out.own, (HROW.out.keep (HK1.out.trans hk7)).snoc heh, ?_, HB7⟩
              rw [HEQ.out, HDR.out, mg_step (by exact HXS.out), List.append_assoc]
              rfl
          · have hc3 : decide ((xw : Int) ≤ (s : Int)) = false := by simp; omega
            have hc4 : decide (xw ≤ s) = false := by simp; omega
            have HM : Hid (mgW ((firstP its).drop p) ((s, al ++ bl) :: pr.drop (j + 1)) = (s, al ++ bl) :: mgW ((firstP its).drop p) (pr.drop (j + 1))) := by show _ = _; rw [HDR.out]; exact mg_stop (by dsimp only; exact hxs)
            clear hxs
            go_wp2
            obtain ⟨hd1, hd2⟩ := HD.out wr HBEL.out
            have HKW := Lib.hid (KI.below HBEL.out)
            have HCa : Hid (Cells wr wr.heap.size Aa (nCs al)) := (HA3.out.keep (KI.below HBEL.out)).cells
            have HE0 : Hid ((wr.alloc (.cells #[] 3)).drew.ownsRow wr.heap.size 3 1 (.slice (some ⟨wr.heap.size, 0, none⟩) 0 0) 0 []) := (own_empty wr _ (Nat.le_refl _)).drew
            have HCa0 : Hid (Cells (wr.alloc (.cells #[] 3)).drew wr.heap.size Aa (nCs al)) := (HCa.out.alloc (Nat.le_refl _) _).drew
            have HSZ0 : Hid (Below wr.heap.size wr (wr.alloc (.cells #[] 3)).drew) := ((Below.refl _ wr).alloc (Nat.le_refl _) _).drew
            have HIb : Hid (HasI N wr Ab (nCs bl)) := HB3.out.keep (KI.below HBEL.out)
            have HON : Hid (∀ u ∈ nCs al, u.oneCell' = true) := fun u hu => by obtain ⟨z, _, rfl⟩ := List.mem_map.1 hu; rfl
            have HON2 : Hid (∀ u ∈ nCs bl, u.oneCell' = true) := fun u hu => by obtain ⟨z, _, rfl⟩ := List.mem_map.1 hu; rfl
            have HSZ := Lib.hid HBEL.out.size
            have HLa : Hid ((nCs al).length = na * 1) := by show _ = _; rw [nCs_len, HNA2.out, Nat.mul_one]
            have HLb : Hid ((nCs bl).length = nb * 1) := by show _ = _; rw [nCs_len, HNB2.out, Nat.mul_one]
            go_region_held3 (fun V => V.cell? ⟨bb, o + q * 2 + 1, none⟩ = some (.slice Aa na ca) ∧ V.cell? ⟨bb, o + t * 2 + 1, none⟩ = some (.slice Ab nb cb)) (first | exact ⟨hd1, hd2⟩ | exact S5 | exact S6 | exact S7 | go_keep)
              (first
                | (refine step_app (wr.alloc (.cells #[] 3)).drew wIntElem (by rfl) (.tmp 56) (.tmp 61) (by rfl) wr.heap.size (.slice (some ⟨wr.heap.size, 0, none⟩) 0 0) 0 [] (by rfl) HE0.out wr.heap.size Aa na ca (nCs al) (by rfl) HLa.out HCa0.out HON.out (by unfold maxLen; omega) (by omega) HSZ0.out.size ?_; intro A5 c5 w5 hA5; have HA5 := Lib.hid hA5; have HB5 : Hid (Below wr.heap.size wr w5) := hA5.below HSZ0.out HSZ0.out.size (own_base HE0.out); have S5 := HD.out w5 (HBEL.out.trans (HB5.out.mono HSZ.out)); clear hA5)
                | (refine step_app w5 wIntElem (by rfl) (.tmp 62) (.tmp 68) (by rfl) wr.heap.size (.slice A5 (0 + na) c5) (0 + na) ([] ++ nCs al) (by rfl) HA5.out.own w5.heap.size Ab nb cb (nCs bl) (by rfl) HLb.out (HIb.out.keep (KI.below HB5.out)).cells HON2.out (by unfold maxLen; omega) (by omega) HB5.out.size ?_; intro A6 c6 w6 hA6; have HA6 := Lib.hid hA6; have HB6 : Hid (Below wr.heap.size wr w6) := hA6.below HB5.out HB5.out.size (own_base HA5.out.own); have S6 := HD.out w6 (HBEL.out.trans (HB6.out.mono HSZ.out)); have HO6 : Hid (w6.ownsRow w.heap.size 238 2 (.slice A' n' c') n' cs') := own_keep HOWN.out (Mod.of_below HB6.out) (fun _ _ h => h); clear hA6)
                | (refine step_app1w w6 eElem (by rfl) (.tmp 54) (.tmp 71) (by rfl) w.heap.size (.slice A' n' c') n' cs' (by rfl) HO6.out _ (by rfl) (by rfl) (by simp [Value.oneCell']) (by unfold maxLen; omega) (by omega) (Nat.le_trans HSZ.out HB6.out.size) ?_; intro A7 c7 w7 hA7; have HA7 := Lib.hid hA7; have HB7 : Hid (Below w.heap.size w w7) := hA7.below (HBEL.out.trans (HB6.out.mono HSZ.out)) (Nat.le_trans HSZ.out HB6.out.size) (own_base HO6.out); have S7 := HD.out w7 HB7.out; clear hA7))
            go_wp2
            go_roundg (GK - 1)
            case measure => have := HQ.out; omega
            case rel =>
              have hk67 : KI w6 w7 := KI.app HO6.out HA7.out (by decide)
              have hq := HQ.out
              have hown6 := HA6.out.own
              rw [Nat.zero_add, List.nil_append, ← HNA2.out, ← HNB2.out, ← List.length_append] at hown6
              have heh : EH N w7 (s, al ++ bl) [.int .i64 (s : Int), .slice A6 (na + nb) c6] := ⟨A6, c6, by rw [List.length_append, HNA2.out, HNB2.out], by
                have h1 := HasI.own hown6 (Nat.le_trans hN HBEL.out.size)
                rw [show nCs al ++ nCs bl = nCs (al ++ bl) by simp [nCs]] at h1
                exact h1.keep hk67⟩
              refine ⟨j + 1, q + 2, p, by omega, by omega, by omega, by go_num, rfl, by omega, A7, n' + 1, c7, acc ++ [(s, al ++ bl)], _, rfl, by rw [List.length_append, ← HNA.out]; rfl, by have := HNP.out; omega, HA7.out.own, (HROW.out.keep ((KI.below HB6.out).trans hk67)).snoc heh, ?_, HB7.out⟩
              rw [HEQ.out, HM.out, List.append_assoc]
              rfl
        · have hp1 : decide ((p : Int) < (l1 : Int)) = false := by simp; omega
          have hp2 : decide (p < l1) = false := by simp; omega
          have HM : Hid (mgW ((firstP its).drop p) ((s, al ++ bl) :: pr.drop (j + 1)) = (s, al ++ bl) :: mgW ((firstP its).drop p) (pr.drop (j + 1))) := by show _ = _; rw [List.drop_of_length_le (by rw [firstP_len, HL1.out]; omega)]; exact mg_none _ _
          clear hpl
          go_wp2
          obtain ⟨hd1, hd2⟩ := HD.out wr HBEL.out
          have HKW := Lib.hid (KI.below HBEL.out)
          have HCa : Hid (Cells wr wr.heap.size Aa (nCs al)) := (HA3.out.keep (KI.below HBEL.out)).cells
          have HE0 : Hid ((wr.alloc (.cells #[] 3)).drew.ownsRow wr.heap.size 3 1 (.slice (some ⟨wr.heap.size, 0, none⟩) 0 0) 0 []) := (own_empty wr _ (Nat.le_refl _)).drew
          have HCa0 : Hid (Cells (wr.alloc (.cells #[] 3)).drew wr.heap.size Aa (nCs al)) := (HCa.out.alloc (Nat.le_refl _) _).drew
          have HSZ0 : Hid (Below wr.heap.size wr (wr.alloc (.cells #[] 3)).drew) := ((Below.refl _ wr).alloc (Nat.le_refl _) _).drew
          have HIb : Hid (HasI N wr Ab (nCs bl)) := HB3.out.keep (KI.below HBEL.out)
          have HON : Hid (∀ u ∈ nCs al, u.oneCell' = true) := fun u hu => by obtain ⟨z, _, rfl⟩ := List.mem_map.1 hu; rfl
          have HON2 : Hid (∀ u ∈ nCs bl, u.oneCell' = true) := fun u hu => by obtain ⟨z, _, rfl⟩ := List.mem_map.1 hu; rfl
          have HSZ := Lib.hid HBEL.out.size
          have HLa : Hid ((nCs al).length = na * 1) := by show _ = _; rw [nCs_len, HNA2.out, Nat.mul_one]
          have HLb : Hid ((nCs bl).length = nb * 1) := by show _ = _; rw [nCs_len, HNB2.out, Nat.mul_one]
          go_region_held3 (fun V => V.cell? ⟨bb, o + q * 2 + 1, none⟩ = some (.slice Aa na ca) ∧ V.cell? ⟨bb, o + t * 2 + 1, none⟩ = some (.slice Ab nb cb)) (first | exact ⟨hd1, hd2⟩ | exact S5 | exact S6 | exact S7 | go_keep)
            (first
              | (refine step_app (wr.alloc (.cells #[] 3)).drew wIntElem (by rfl) (.tmp 56) (.tmp 61) (by rfl) wr.heap.size (.slice (some ⟨wr.heap.size, 0, none⟩) 0 0) 0 [] (by rfl) HE0.out wr.heap.size Aa na ca (nCs al) (by rfl) HLa.out HCa0.out HON.out (by unfold maxLen; omega) (by omega) HSZ0.out.size ?_; intro A5 c5 w5 hA5; have HA5 := Lib.hid hA5; have HB5 : Hid (Below wr.heap.size wr w5) := hA5.below HSZ0.out HSZ0.out.size (own_base HE0.out); have S5 := HD.out w5 (HBEL.out.trans (HB5.out.mono HSZ.out)); clear hA5)
              | (refine step_app w5 wIntElem (by rfl) (.tmp 62) (.tmp 68) (by rfl) wr.heap.size (.slice A5 (0 + na) c5) (0 + na) ([] ++ nCs al) (by rfl) HA5.out.own w5.heap.size Ab nb cb (nCs bl) (by rfl) HLb.out (HIb.out.keep (KI.below HB5.out)).cells HON2.out (by unfold maxLen; omega) (by omega) HB5.out.size ?_; intro A6 c6 w6 hA6; have HA6 := Lib.hid hA6; have HB6 : Hid (Below wr.heap.size wr w6) := hA6.below HB5.out HB5.out.size (own_base HA5.out.own); have S6 := HD.out w6 (HBEL.out.trans (HB6.out.mono HSZ.out)); have HO6 : Hid (w6.ownsRow w.heap.size 238 2 (.slice A' n' c') n' cs') := own_keep HOWN.out (Mod.of_below HB6.out) (fun _ _ h => h); clear hA6)
              | (refine step_app1w w6 eElem (by rfl) (.tmp 54) (.tmp 71) (by rfl) w.heap.size (.slice A' n' c') n' cs' (by rfl) HO6.out _ (by rfl) (by rfl) (by simp [Value.oneCell']) (by unfold maxLen; omega) (by omega) (Nat.le_trans HSZ.out HB6.out.size) ?_; intro A7 c7 w7 hA7; have HA7 := Lib.hid hA7; have HB7 : Hid (Below w.heap.size w w7) := hA7.below (HBEL.out.trans (HB6.out.mono HSZ.out)) (Nat.le_trans HSZ.out HB6.out.size) (own_base HO6.out); have S7 := HD.out w7 HB7.out; clear hA7))
          go_wp2
          go_roundg (GK - 1)
          case measure => have := HQ.out; omega
          case rel =>
            have hk67 : KI w6 w7 := KI.app HO6.out HA7.out (by decide)
            have hq := HQ.out
            have hown6 := HA6.out.own
            rw [Nat.zero_add, List.nil_append, ← HNA2.out, ← HNB2.out, ← List.length_append] at hown6
            have heh : EH N w7 (s, al ++ bl) [.int .i64 (s : Int), .slice A6 (na + nb) c6] := ⟨A6, c6, by rw [List.length_append, HNA2.out, HNB2.out], by
              have h1 := HasI.own hown6 (Nat.le_trans hN HBEL.out.size)
              rw [show nCs al ++ nCs bl = nCs (al ++ bl) by simp [nCs]] at h1
              exact h1.keep hk67⟩
            refine ⟨j + 1, q + 2, p, by omega, by omega, by omega, by go_num, rfl, by omega, A7, n' + 1, c7, acc ++ [(s, al ++ bl)], _, rfl, by rw [List.length_append, ← HNA.out]; rfl, by have := HNP.out; omega, HA7.out.own, (HROW.out.keep ((KI.below HB6.out).trans hk67)).snoc heh, ?_, HB7.out⟩
            rw [HEQ.out, HM.out, List.append_assoc]
            rfl
    · have hlt : decide ((q : Int) < (l2 : Int) - 1) = false := by simp; omega
      have HDN : Hid (mgW ((firstP its).drop p) (pr.drop j) = (firstP its).drop p) := by
        show _ = _
        rw [List.drop_of_length_le (show pr.length ≤ j by rw [HPL.out]; have := HQ.out; omega), mgW]
      have HJN : Hid (n' + (l1 - p) = (mgW (firstP its) pr).length) := by
        show _ = _
        rw [mgW_len, firstP_len, HL1.out, HPL.out, HNP.out]
        have := HQ.out
        omega
      clear h
      go_wp2
      go_loopg [5, 6] (l1 - p) (fun gi v i wi => ∃ p : Nat, p + gi = l1 ∧ i = .int .i64 p ∧ ∃ (A' : Option Addr) (n' c' : Nat) (acc : List WE) (cs' : List Value), v = .slice A' n' c' ∧ n' = acc.length ∧ n' ≤ 2000 + p ∧
        wi.ownsRow w.heap.size 238 2 (.slice A' n' c') n' cs' ∧ RowH N wi acc cs' ∧ mgW (firstP its) pr = acc ++ (firstP its).drop p ∧ Below w.heap.size w wi)
      case atStart => exact ⟨p, by omega, rfl, A', n', c', acc, cs', rfl, HNA.out, by have := HNP.out; omega, HOWN.out, HROW.out, by rw [← HDN.out]; exact HEQ.out, HBEL.out⟩
      case round =>
        clear HOWN HROW HEQ HNA HNP HBEL hpl hnl HDN HJN
        obtain ⟨p, hp, rfl, A', n', c', acc, cs', rfl, hna, hnp, hown, hrow, heq, hbel⟩ := hrel
        have HOWN := Lib.hid hown
        have HROW := Lib.hid hrow
        have HEQ := Lib.hid heq
        have HBEL := Lib.hid hbel
        have HNA := Lib.hid hna
        have HNP := Lib.hid hnp
        have hnl : n' ≤ 3000 := by omega
        clear hown hrow heq hbel hna hnp
        by_cases hpl : p < l1
        · obtain ⟨x, hx⟩ : ∃ x, its[p]? = some x := ⟨_, List.getElem?_eq_getElem (by have := HL1.out; omega)⟩
          obtain ⟨b1, o1, rfl, hb1B, hcc1⟩ := (HC1.out.below HBEL.out hB) (by rw [rIt_len, HL1.out]; omega)
          obtain ⟨hx0, hx1⟩ := rIt_at hx
          have x1 : wr.cell? ⟨b1, o1 + p * 2 + 1, none⟩ = some (.int .i64 (x.1 : Int)) := by rw [Nat.add_assoc]; exact hcc1 _ _ hx1
          have HDR := Lib.hid (firstP_drop hx)
          have hp1 : decide ((p : Int) < (l1 : Int)) = true := by simp; omega
          have hp2 : decide (p < l1) = true := by simp; omega
          obtain ⟨xw, xs⟩ := x
          dsimp only at *
          clear hx hcc1 hx0 hx1
          obtain ⟨W1, hW1⟩ : ∃ W1, wr.alloc (.cells #[.int .i64 (p : Int)] 3) = W1 := ⟨_, rfl⟩
          obtain ⟨h, hh⟩ : ∃ h, wr.heap.size = h := ⟨_, rfl⟩
          have HOW1 : Hid (W1.ownsRow w.heap.size 238 2 (.slice A' n' c') n' cs') := by show World.ownsRow _ _ _ _ _ _ _; rw [← hW1]; exact HOWN.out.alloc _
          have HK1 : Hid (KI wr W1) := by show KI _ _; rw [← hW1]; exact KI.alloc _ _
          have HBE1 : Hid (Below w.heap.size w W1) := by show Below _ _ _; rw [← hW1]; exact HBEL.out.alloc HBEL.out.size _
          have HH1 : Hid (W1.heap[h]? = some (.cells #[.int .i64 (p : Int)] 3 (0, 0))) := by show _ = _; rw [← hW1, ← hh]; exact heap_alloc_new wr _
          go_wp2_with (at_builtin; refine wpList_app1 W1 eElem rfl (.tmp 77) (.tmp 86) rfl w.heap.size (.slice A' n' c') n' cs' rfl HOW1.out _ rfl rfl (by simp [Value.oneCell']) (by unfold maxLen; omega) (by omega) HBE1.out.size ?_; intro A4 c4 w7 hA; have HA := Lib.hid hA; clear hA)
          go_roundg (gk - 1)
          case measure => omega
          case rel =>
            have HB7 : Below w.heap.size w w7 := HA.out.below HBE1.out HBE1.out.size (own_base HOW1.out)
            have hk7 : KI W1 w7 := KI.app HOW1.out HA.out (by decide)
            have heh : EH N w7 (xw, [p]) [.int .i64 (xw : Int), .slice (some ⟨h, 0, none⟩) 1 1] := ⟨some ⟨h, 0, none⟩, 1, rfl, fun _ => ⟨h, 0, _, rfl, by rw [← hh]; exact Nat.le_trans hN HBEL.out.size, hk7 _ _ HH1.out, fun j u hu => by
              rw [Nat.zero_add]
              simpa [nCs] using hu⟩⟩
            refine ⟨p + 1, by omega, by go_num, A4, n' + 1, c4, acc ++ [(xw, [p])], _, rfl, by rw [List.length_append, ← HNA.out]; rfl, by have := HNP.out; omega, HA.out.own, (HROW.out.keep (HK1.out.trans hk7)).snoc heh, ?_, HB7⟩
            rw [HEQ.out, HDR.out, List.append_assoc]
            rfl
        · have hp1 : decide ((p : Int) < (l1 : Int)) = false := by simp; omega
          have hp2 : decide (p < l1) = false := by simp; omega
          have HFIN : Hid (mgW (firstP its) pr = acc) := by show _ = _; rw [HEQ.out, List.drop_of_length_le (by rw [firstP_len, HL1.out]; omega), List.append_nil]
          clear hpl
          go_wp2
          go_ret
          exact ⟨A', n', c', cs', rfl, by rw [HFIN.out]; exact HNA.out, HOWN.out, by rw [HFIN.out]; exact HROW.out, HBEL.out⟩
end Go.Proofs.YtaknladkodibaaaGreatDoor
/- Layer 7, plainly: rows by places, and by symbols. -/
namespace Go.Proofs.YtaknladkodibaaaGreatDoor

/-- The reference's rows, none ahead of the first. -/
def rrP (first : List WE) : Nat → List WE
  | 0 => []
  | j + 1 => mgW first (prW (rrP first j))
theorem rrP_row (first : List WE) : ∀ j, rrP first (j + 1) = rowW first j
  | 0 => by show mgW first [] = first; rw [mgW]
  | j + 1 => by rw [rrP, rrP_row first j, rowW]
def mpE (g : Nat → Nat) (x : WE) : WE := (x.1, x.2.map g)
theorem prW_map (g : Nat → Nat) : ∀ l : List WE, prW (l.map (mpE g)) = (prW l).map (mpE g)
  | [] => rfl
  | [_] => rfl
  | a :: b :: r => by
    rw [List.map_cons, List.map_cons, prW, prW, List.map_cons, prW_map g r]
    simp [mpE]
theorem mgW_map (g : Nat → Nat) : ∀ (ps its : List WE), mgW (its.map (mpE g)) (ps.map (mpE g)) = (mgW its ps).map (mpE g)
  | [], its => rfl
  | p :: ps, its => by
    rw [List.map_cons, mgW, mgW, List.map_append, List.map_cons]
    have e1 : (its.map (mpE g)).takeWhile (fun x => decide (x.1 ≤ (mpE g p).1)) = (its.takeWhile (fun x => decide (x.1 ≤ p.1))).map (mpE g) := by
      rw [List.takeWhile_map]
      rfl
    have e2 : (its.map (mpE g)).dropWhile (fun x => decide (x.1 ≤ (mpE g p).1)) = (its.dropWhile (fun x => decide (x.1 ≤ p.1))).map (mpE g) := by
      rw [List.dropWhile_map]
      rfl
    rw [e1, e2, mgW_map g ps]
theorem rowW_map (g : Nat → Nat) (first : List WE) : ∀ k, rowW (first.map (mpE g)) k = (rowW first k).map (mpE g)
  | 0 => rfl
  | k + 1 => by rw [rowW, rowW, rowW_map g first k, prW_map, mgW_map]
/-- The symbol at a place. -/
def symAt (its : List (Nat × Nat)) (p : Nat) : Nat := (its.getD p (0, 0)).2
theorem firstP_map (its : List (Nat × Nat)) : (firstP its).map (mpE (symAt its)) = firstW its := by
  apply List.ext_getElem?
  intro i
  rw [List.getElem?_map]
  cases h : its[i]? with
  | none =>
    rw [List.getElem?_eq_none (by rw [firstP_len]; exact List.getElem?_eq_none_iff.1 h), List.getElem?_eq_none (by rw [firstW_len]; exact List.getElem?_eq_none_iff.1 h)]
    rfl
  | some x =>
    rw [firstP_at h, firstW, List.getElem?_map, h]
    simp [mpE, symAt, h]
theorem symsP (its : List (Nat × Nat)) (m : Nat) : (((rowW (firstP its) 14).take m).flatMap (·.2)).map (symAt its) = ((rowW (firstW its) 14).take m).flatMap (·.2) := by
  rw [← firstP_map, rowW_map, List.map_flatMap, ← List.map_take, List.flatMap_map]
  rfl
theorem prW_slen {m : Nat} : ∀ l : List WE, (∀ x ∈ l, x.2.length ≤ m) → ∀ x ∈ prW l, x.2.length ≤ 2 * m
  | [], _, x, h => by simp [prW] at h
  | [_], _, x, h => by simp [prW] at h
  | a :: b :: r, hl, x, h => by
    rw [prW] at h
    rcases List.mem_cons.1 h with rfl | h
    · have h1 := hl a (by simp)
      have h2 := hl b (by simp)
      show (a.2 ++ b.2).length ≤ _
      rw [List.length_append]
      omega
    · exact prW_slen r (fun y hy => hl y (by simp [hy])) x h
theorem rowW_slen {first : List WE} (h : ∀ x ∈ first, x.2.length ≤ 1) : ∀ k, ∀ x ∈ rowW first k, x.2.length ≤ 2 ^ k
  | 0, x, hx => h x hx
  | k + 1, x, hx => by
    rw [rowW] at hx
    rcases mgW_mem _ _ x hx with hx | hx
    · exact Nat.le_trans (h x hx) (Nat.two_pow_pos _)
    · have := prW_slen _ (rowW_slen h k) x hx
      rw [Nat.pow_succ, Nat.mul_comm]
      exact this
theorem firstP_mem {its : List (Nat × Nat)} {x : WE} (h : x ∈ firstP its) : ∃ i y, its[i]? = some y ∧ x = (y.1, [i]) := by
  obtain ⟨⟨y, i⟩, hy, rfl⟩ := List.mem_map.1 h
  exact ⟨i, y, (List.mem_zipIdx_iff_getElem?.1 hy), rfl⟩
/-- What a row of the reference's is bound by. -/
theorem rrP_bd {its : List (Nat × Nat)} (hw : ∀ x ∈ its, x.1 ≤ 1073741824) {j : Nat} (hj : j ≤ 15) : (rrP (firstP its) j).length ≤ 2 * its.length ∧ ∀ x ∈ rrP (firstP its) j, x.1 ≤ 1125899906842624 ∧ x.2.length ≤ 1000000 ∧ ∀ p ∈ x.2, p < its.length := by
  cases j with
  | zero => exact ⟨Nat.zero_le _, fun x h => by simp [rrP] at h⟩
  | succ j =>
    rw [rrP_row]
    refine ⟨by have := rowW_len (firstP its) j; rwa [firstP_len] at this, fun x hx => ⟨?_, ?_, ?_⟩⟩
    · have h1 := rowW_bd (m := 1073741824) (first := firstP its) (fun y hy => by
        obtain ⟨i, z, hz, rfl⟩ := firstP_mem hy
        exact hw z (List.mem_of_getElem? hz)) j x hx
      have h2 : 2 ^ j ≤ 2 ^ 14 := Nat.pow_le_pow_right (by omega) (by omega)
      have h3 := Nat.mul_le_mul_right 1073741824 h2
      omega
    · have h1 := rowW_slen (first := firstP its) (fun y hy => by
        obtain ⟨i, z, hz, rfl⟩ := firstP_mem hy
        exact Nat.le_refl _) j x hx
      have h2 : 2 ^ j ≤ 2 ^ 14 := Nat.pow_le_pow_right (by omega) (by omega)
      omega
    · exact rowW_all (fun y hy s hs => by
        obtain ⟨i, z, hz, rfl⟩ := firstP_mem hy
        have : s = i := by simpa using hs
        rw [this]
        exact (List.getElem?_eq_some_iff.1 hz).1) j x hx
end Go.Proofs.YtaknladkodibaaaGreatDoor
/- Layer 7: the reference's Lengths. -/
namespace Go.Proofs.YtaknladkodibaaaGreatDoor
open Go.RowKit

theorem NB.apart2 {w : World} {g b o : Nat} {v : Value} {ns : List Nat} (h : NB w g ns) (ha : w.cell? ⟨b, o, none⟩ = some v) (hv : ∀ n, v ≠ .int .i64 n) : b ≠ g := by
  rintro rfl
  rw [cell_of_row _ _ _ _ _ _ h] at ha
  have h2 : (nCs ns)[o]? = some v := by simpa using ha
  rw [nCs, List.getElem?_map] at h2
  cases hx : ns[o]? with
  | none => rw [hx] at h2; cases h2
  | some n => rw [hx] at h2; exact hv _ (by injection h2 with h2; exact h2.symm)
theorem mod_cell {w w' : World} {g b o : Nat} {v : Value} (h : w.cell? ⟨b, o, none⟩ = some v) (hm : Mod (oneB g) w w') (hb : b ≠ g) : w'.cell? ⟨b, o, none⟩ = some v :=
  (World.cell?_of_block (a := ⟨b, o, none⟩) (hm.block b (World.block_lt_of_cell? w _ h) (fun e => hb e))).trans h
set_option maxRecDepth 100000 in
set_option maxHeartbeats 1000000 in
theorem refLen_none (A : Option Addr) (l c : Nat) (ns : List Nat) (B : Nat) (w : World) (hz : ns.length = l) (hl : l ≤ 320) (hb : Cells w B A (nCs ns)) (hB : B ≤ w.heap.size) (hn : itemsW ns = []) :
    Calls Tryz.prog 116 #[.slice A l c] w fun e w' => e = .returned (.slice (some ⟨w.heap.size, 0, none⟩) l l) ∧ NB w' w.heap.size (lensW ns) ∧ Below w.heap.size w w' := by
  have HL := Lib.hid hz
  have HN := Lib.hid hn
  obtain ⟨w1, hw1⟩ : ∃ w1, w.alloc (.cells (madeCells #[.int .i64 0] l) 3) = w1 := ⟨_, rfl⟩
  have hmk : (Instr.makeSlice 156 (.int .i64 (l : Int)) (.int .i64 (l : Int))).run Tryz.prog w = .ok (.slice (some ⟨w.heap.size, 0, none⟩) l l) w1 := by rw [← hw1]; exact wei_make l (by omega) w
  have HN1 : Hid (NB w1 w.heap.size (List.replicate l 0)) := by show NB _ _ _; rw [← hw1]; exact wei_made w l
  have HB1 : Hid (Below w.heap.size w w1) := by show Below _ _ _; rw [← hw1]; exact (Below.refl _ _).alloc (Nat.le_refl _) _
  have HI := Lib.hid (refItems_any A l c ns B w1 hz (by omega) (Nat.le_trans hB HB1.out.size) (hb.below HB1.out hB))
  have HZ1 : Hid (w.heap.size < w1.heap.size) := HN1.out.lt
  clear hb hz hn hw1
  go_enter Tryz.func116, Tryz.ntmps116
  go_wp2_with (go_at_call 163; refine HI.out.mono ?_; rintro e w2 ⟨A7, n7, c7, rfl, hn7, ho7, hb7⟩; (obtain rfl : n7 = 0 := by rw [hn7, HN.out]; rfl); have HB7 := Lib.hid hb7; clear hn7 ho7 hb7)
  go_ret
  exact ⟨rfl, by rw [lensW_none HN.out, HL.out]; exact HN1.out.below HB7.out HZ1.out, HB1.out.trans (HB7.out.mono HB1.out.size)⟩
set_option maxRecDepth 100000 in
set_option maxHeartbeats 1000000 in
theorem refLen_one (A : Option Addr) (l c : Nat) (ns : List Nat) (B : Nat) (w : World) (x0 s0 : Nat) (hz : ns.length = l) (hl : l ≤ 320) (hb : Cells w B A (nCs ns)) (hB : B ≤ w.heap.size) (hn : itemsW ns = [(x0, s0)]) :
    Calls Tryz.prog 116 #[.slice A l c] w fun e w' => e = .returned (.slice (some ⟨w.heap.size, 0, none⟩) l l) ∧ NB w' w.heap.size (lensW ns) ∧ Below w.heap.size w w' := by
  have HL := Lib.hid hz
  have HN := Lib.hid hn
  have hs0 : s0 < l := by
    have := (itemsW_mem (ns := ns) (x := (x0, s0)) (by rw [hn]; simp)).2.2
    rw [hz] at this
    exact this
  obtain ⟨w1, hw1⟩ : ∃ w1, w.alloc (.cells (madeCells #[.int .i64 0] l) 3) = w1 := ⟨_, rfl⟩
  have hmk : (Instr.makeSlice 156 (.int .i64 (l : Int)) (.int .i64 (l : Int))).run Tryz.prog w = .ok (.slice (some ⟨w.heap.size, 0, none⟩) l l) w1 := by rw [← hw1]; exact wei_make l (by omega) w
  have HN1 : Hid (NB w1 w.heap.size (List.replicate l 0)) := by show NB _ _ _; rw [← hw1]; exact wei_made w l
  have HB1 : Hid (Below w.heap.size w w1) := by show Below _ _ _; rw [← hw1]; exact (Below.refl _ _).alloc (Nat.le_refl _) _
  have HI := Lib.hid (refItems_any A l c ns B w1 hz (by omega) (Nat.le_trans hB HB1.out.size) (hb.below HB1.out hB))
  have HZ1 : Hid (w.heap.size < w1.heap.size) := HN1.out.lt
  obtain ⟨g, hg⟩ : ∃ g, w.heap.size = g := ⟨_, rfl⟩
  have HG := Lib.hid hg
  rw [hg] at hmk HN1 HZ1 ⊢
  clear hb hz hn hw1 hg
  go_enter Tryz.func116, Tryz.ntmps116
  go_wp2_with (go_at_call 163; refine HI.out.mono ?_; rintro e w2 ⟨A7, n7, c7, rfl, hn7, ho7, hb7⟩; (obtain rfl : n7 = 1 := by rw [hn7, HN.out]; rfl); have HB7 := Lib.hid hb7; (have hcc := (cells_of_ownK ho7).2 (by rw [HN.out]; simp [rItE])); obtain ⟨b7, o7, rfl, _, hcell⟩ := hcc; (have f1 : w2.cell? ⟨b7, o7, none⟩ = some (.int .i64 (s0 : Int)) := hcell 0 _ (by rw [HN.out]; rfl)); (have HN2 := Lib.hid (HN1.out.below HB7.out HZ1.out)); (have d0 : w2.cell? ⟨g, s0, none⟩ = some (.int .i64 0) := by (have := HN2.out.cell (k := s0) (n := 0) (by simp [hs0])); simpa using this); (have d1 : w2.frozen? ⟨g, s0, none⟩ = false := HN2.out.free); clear hn7 ho7 hb7 hcell)
  go_ret
  have h2 := HN2.out.set s0 1
  have hb : Below g w w2 := by
    have h1 := HB1.out
    rw [HG.out] at h1
    exact h1.trans (HB7.out.mono (Nat.le_of_lt HZ1.out))
  exact ⟨rfl, by rw [lensW_one HN.out, HL.out]; exact h2, hb.setCell (p := ⟨g, s0, none⟩) (Nat.le_refl _) _⟩
set_option maxRecDepth 100000 in
set_option maxHeartbeats 4000000 in
theorem refLen_many (A : Option Addr) (l c : Nat) (ns : List Nat) (B : Nat) (w : World) (hz : ns.length = l) (hl : l ≤ 320) (hb : Cells w B A (nCs ns)) (hB : B ≤ w.heap.size) (hok : ∀ n ∈ ns, n ≤ 1073741824) (h2 : 2 ≤ (itemsW ns).length) :
    Calls Tryz.prog 116 #[.slice A l c] w fun e w' => e = .returned (.slice (some ⟨w.heap.size, 0, none⟩) l l) ∧ NB w' w.heap.size (lensW ns) ∧ Below w.heap.size w w' := by
  have HL := Lib.hid hz
  have HGD : Hid (Good (itemsW ns)) := itemsW_good h2 (by omega)
  have HRR := Lib.hid (lensW_many (ns := ns) h2)
  have hnl : (itemsW ns).length ≤ l := by rw [← hz]; exact itemsW_len ns
  have HWT : Hid (∀ x ∈ itemsW ns, x.1 ≤ 1073741824 ∧ x.2 < l) := fun x hx => by
    have h1 := itemsW_mem hx
    exact ⟨hok x.1 (List.mem_of_getElem? h1.1), by rw [← hz]; exact h1.2.2⟩
  obtain ⟨w1, hw1⟩ : ∃ w1, w.alloc (.cells (madeCells #[.int .i64 0] l) 3) = w1 := ⟨_, rfl⟩
  have hmk : (Instr.makeSlice 156 (.int .i64 (l : Int)) (.int .i64 (l : Int))).run Tryz.prog w = .ok (.slice (some ⟨w.heap.size, 0, none⟩) l l) w1 := by rw [← hw1]; exact wei_make l (by omega) w
  have HN1 : Hid (NB w1 w.heap.size (List.replicate l 0)) := by show NB _ _ _; rw [← hw1]; exact wei_made w l
  have HB1 : Hid (Below w.heap.size w w1) := by show Below _ _ _; rw [← hw1]; exact (Below.refl _ _).alloc (Nat.le_refl _) _
  have HI := Lib.hid (refItems_any A l c ns B w1 hz (by omega) (Nat.le_trans hB HB1.out.size) (hb.below HB1.out hB))
  have HZ1 : Hid (w.heap.size < w1.heap.size) := HN1.out.lt
  obtain ⟨g, hg⟩ : ∃ g, w.heap.size = g := ⟨_, rfl⟩
  have HG := Lib.hid hg
  obtain ⟨its, hits⟩ : ∃ its, itemsW ns = its := ⟨_, rfl⟩
  rw [hits] at HGD HRR hnl HWT HI h2
  obtain ⟨n, hn⟩ : ∃ n, its.length = n := ⟨_, rfl⟩
  rw [hn] at hnl h2 HI
  have HN := Lib.hid hn
  rw [hg] at hmk HN1 HZ1 ⊢
  have t1 : ((n : Int) == 1) = false := by simp; omega
  have t2 : decide ((n : Int) < 2) = false := by simp; omega
  have HITS := Lib.hid hits
  clear hb hz hw1 hg hits hn hok
  go_enter Tryz.func116, Tryz.ntmps116
  go_wp2_with (go_at_call 163; refine HI.out.mono ?_; rintro e w2 ⟨A7, n7, c7, rfl, hn7, ho7, hb7⟩; subst hn7; have HO7 := Lib.hid ho7; have HB7 := Lib.hid hb7; have HN2 := Lib.hid (HN1.out.below hb7 HZ1.out); clear ho7 hb7)
  obtain ⟨N, hN⟩ : ∃ N, w2.heap.size = N := ⟨_, rfl⟩
  obtain ⟨g7, hA7, hg7⟩ : ∃ g7, A7 = some ⟨g7, 0, none⟩ ∧ g ≠ g7 := by
    rcases HO7.out.2 with ⟨_, h0⟩ | ⟨g7, cap, cur, hv, hb, _⟩
    · omega
    · simp only [Value.slice.injEq] at hv
      exact ⟨g7, hv.1, by have := HZ1.out; omega⟩
  subst hA7
  have HC7 : Hid (Cells w2 N (some ⟨g7, 0, none⟩) (its.flatMap rItE)) := by show Cells _ _ _ _; rw [← hN]; exact (cells_of_ownK HO7.out).2
  have HG7 := Lib.hid hg7
  have HNN := Lib.hid hN
  have hgN : g < N := by rw [← hN]; exact HN2.out.lt
  clear hN HO7 hg7
  go_loopg [5, 6] 15 (fun gk v i wr => ∃ (j : Nat) (A' : Option Addr) (n' c' : Nat) (cs : List Value), j + gk = 15 ∧ i = .int .i64 j ∧ v = .slice A' n' c' ∧ n' = (rrP (firstP its) j).length ∧ Cells wr wr.heap.size A' cs ∧ RowH N wr (rrP (firstP its) j) cs ∧ Below N w2 wr)
  case atStart => exact ⟨0, none, 0, 0, [], rfl, rfl, rfl, rfl, Cells.nil _ _ _, RowH.nil _ _, Below.refl _ _⟩
  case round =>
    obtain ⟨j, A', n', c', cs, hj, rfl, rfl, hn', hcs, hrow, hbl⟩ := hrel
    have HBL := Lib.hid hbl
    have HNP := Lib.hid hn'
    have hbd := rrP_bd (its := its) (fun x hx => (HWT.out x hx).1) (j := j) (by omega)
    rw [HN.out] at hbd
    have hn2 : n' ≤ 2 * n7 := by rw [hn']; exact hbd.1
    have HSZ : Hid (N ≤ wr.heap.size) := by have h1 := hbl.size; rw [HNN.out] at h1; exact h1
    by_cases hj15 : j < 15
    · have HRO := Lib.hid (refRow7_any (some ⟨g7, 0, none⟩) A' n7 c7 n' c' its (rrP (firstP its) j) cs wr.heap.size wr HN.out hn'.symm (by omega) (by omega) (Nat.le_refl _) ((HC7.out.below hbl (Nat.le_refl _)).more HSZ.out) hcs N HSZ.out hrow (fun x hx => ⟨(hbd.2 x hx).1, (hbd.2 x hx).2.1⟩))
      have hjd : decide ((j : Int) < 15) = true := by simp; omega
      clear hbl hn' hcs hrow hbd
      go_wp2_with (go_at_call 164; refine HRO.out.mono ?_; rintro e w3 ⟨A3, n3, c3, cs3, rfl, hn3, ho3, hr3, hb3⟩; have HN3 := Lib.hid hn3; have HC3 := Lib.hid (cells_of_ownK ho3).2; have HR3 := Lib.hid hr3; have HB3 := Lib.hid hb3; clear hn3 ho3 hr3 hb3)
      go_roundg (gk - 1)
      case measure => omega
      case rel => exact ⟨j + 1, A3, n3, c3, cs3, by omega, by go_num, rfl, HN3.out, HC3.out, HR3.out, HBL.out.trans (HB3.out.mono HSZ.out)⟩
    · obtain rfl : j = 15 := by omega
      obtain ⟨row, hrw⟩ : ∃ row, rrP (firstP its) 15 = row := ⟨_, rfl⟩
      have HRW : Hid (row = rowW (firstP its) 14) := by show _ = _; rw [← hrw, rrP_row]
      rw [hrw] at hn' hrow hbd HNP
      obtain ⟨tt, htt⟩ : ∃ tt, 2 * n7 - 2 = tt := ⟨_, rfl⟩
      have HTT := Lib.hid htt
      have hr14 : tt ≤ n' := by
        have h1 := row14 (first := firstP its) (by rw [firstP_len, HN.out]; omega)
        rw [firstP_len, HN.out, ← HRW.out, ← hn'] at h1
        omega
      have htt0 : tt ≤ 640 := by omega
      have e1 : IntKind.i64.wrap (2 * (n7 : Int) - 2) = (tt : Int) := by rw [show 2 * (n7 : Int) - 2 = (tt : Int) by omega]; exact IntWalk.i64_in _ (by omega)
      have e2 : 2 * (n7 : Int) - 2 = (tt : Int) := by omega
      have HNB : Hid (NB wr g (List.replicate l 0)) := HN2.out.below hbl hgN
      have HCS := Lib.hid hcs
      have HROW := Lib.hid hrow
      have HBD := Lib.hid hbd.2
      have HCI : Hid (Cells wr N (some ⟨g7, 0, none⟩) (its.flatMap rItE)) := HC7.out.below hbl (Nat.le_refl _)
      have hn16 : n' ≤ 640 := by omega
      clear hbl hn' hcs hrow hbd hrw htt hj hn2
      obtain ⟨wz, hwz⟩ : ∃ wz, wz = wr := ⟨_, rfl⟩
      subst hwz
      have HIT : Hid (∀ p y, its[p]? = some y → wz.cell? ⟨g7, p * 2, none⟩ = some (.int .i64 (y.2 : Int))) := fun p y hy => by
        obtain ⟨b, o, he, _, hc⟩ := HCI.out (by rw [rIt_len, HN.out]; omega)
        simp only [Option.some.injEq, Addr.mk.injEq, and_true] at he
        obtain ⟨rfl, rfl⟩ := he
        have := hc _ _ (rIt_at hy).1
        rwa [Nat.zero_add] at this
      have HCT : Hid (∀ j, j ≤ tt → ∀ s, ((((row.take j).flatMap (·.2)).map (symAt its))).count s ≤ 15) := fun j hj s => by
        have h1 := lnW_le (ns := ns) (by rw [HITS.out]; exact HGD.out) s
        rw [HITS.out] at h1
        have h2 := count_flat_le (l := rowW (firstW its) 14) s j tt hj
        rw [lnW, symsW, HN.out, HTT.out] at h1
        rw [HRW.out, symsP]
        omega
      clear HCI
      go_wp2
      go_loopg [7, 8, 9] tt (fun gj i k9 s9 wi => ∃ j : Nat, j + gj = tt ∧ i = .int .i64 j ∧ NB wi g (incW (List.replicate l 0) (((row.take j).flatMap (·.2)).map (symAt its))) ∧ Mod (oneB g) wz wi)
      case atStart => exact ⟨0, by omega, rfl, HNB.out, Mod.refl _ _⟩
      case round =>
        obtain ⟨j, hj, rfl, hnb, hmd⟩ := hrel
        have HNB2 := Lib.hid hnb
        have HMD := Lib.hid hmd
        clear hnb hmd
        by_cases hjt : j < tt
        · have u1 : decide ((j : Int) < (tt : Int)) = true := by simp; omega
          have u1' : decide (j < tt) = true := by simp; omega
          have u2 : decide ((j : Int) < (n' : Int)) = true := by simp; omega
          have u2' : decide (j < n') = true := by simp; omega
          obtain ⟨x, hx⟩ : ∃ x, row[j]? = some x := ⟨_, List.getElem?_eq_getElem (by rw [← HNP.out]; omega)⟩
          obtain ⟨Ah, ch, _, ha2, ha3⟩ := HROW.out.at_ hx
          obtain ⟨br, oR, rfl, _, hcr⟩ := HCS.out (by rw [HROW.out.len, ← HNP.out]; omega)
          have hr0 : wz.cell? ⟨br, oR + j * 2 + 1, none⟩ = some (.slice Ah x.2.length ch) := by rw [Nat.add_assoc]; exact hcr _ _ ha2
          have hbr := HNB.out.apart2 hr0 (fun _ e => by cases e)
          have hbx := HBD.out x (List.mem_of_getElem? hx)
          have HTK : Hid (((row.take (j + 1)).flatMap (·.2)).map (symAt its) = (((row.take j).flatMap (·.2)) ++ x.2).map (symAt its)) := by
            show _ = _
            rw [List.take_add_one, hx, List.flatMap_append]
            simp
          have hct := HCT.out (j + 1) (by omega)
          rw [HTK.out] at hct
          obtain ⟨xw, xl⟩ := x
          dsimp only at *
          obtain ⟨nx, hnx⟩ : ∃ nx, xl.length = nx := ⟨_, rfl⟩
          rw [hnx] at hr0 hbx
          have HNX := Lib.hid hnx
          have HR0 : Hid (∀ W, Mod (oneB g) wz W → W.cell? ⟨br, oR + j * 2 + 1, none⟩ = some (.slice Ah nx ch)) := fun W hW => mod_cell hr0 hW hbr
          have HHA := Lib.hid ha3
          have HPB := Lib.hid hbx.2.2
          have hnx6 : nx ≤ 1000000 := hbx.2.1
          have HCT2 := Lib.hid hct
          obtain ⟨pre, hpre⟩ : ∃ pre, (row.take j).flatMap (·.2) = pre := ⟨_, rfl⟩
          rw [hpre] at HNB2 HTK HCT2
          obtain ⟨GJ, hGJ⟩ : ∃ GJ, GJ = gk := ⟨_, rfl⟩
          subst hGJ
          clear hx ha2 ha3 hcr hr0 hbr hbx hct hnx hpre
          go_wp2
          go_loopg [8, 9] nx (fun gi k9 s9 wi => ∃ k : Nat, k + gi = nx ∧ k9 = .int .i64 k ∧ NB wi g (incW (List.replicate l 0) ((pre ++ xl.take k).map (symAt its))) ∧ Mod (oneB g) wz wi)
          case atStart => exact ⟨0, by omega, rfl, by rw [List.take_zero, List.append_nil]; exact HNB2.out, HMD.out⟩
          case round =>
            clear HNB2 HMD
            obtain ⟨k, hk, rfl, hnb, hmd⟩ := hrel
            have HNB2 := Lib.hid hnb
            have HMD := Lib.hid hmd
            have r0 := HR0.out wr hmd
            clear hnb hmd
            by_cases hkx : k < nx
            · obtain ⟨pl, hpl⟩ : ∃ pl, xl[k]? = some pl := ⟨_, List.getElem?_eq_getElem (by have := HNX.out; omega)⟩
              have hpn := HPB.out pl (List.mem_of_getElem? hpl)
              obtain ⟨y, hy⟩ : ∃ y, its[pl]? = some y := ⟨_, List.getElem?_eq_getElem (by have := HN.out; omega)⟩
              obtain ⟨bh, oh, cur, rfl, hbN, hcb, hcur⟩ := HHA.out (by rw [nCs_len]; have := HNX.out; omega)
              have h0 : wz.cell? ⟨bh, oh + k, none⟩ = some (.int .i64 (pl : Int)) := by rw [cell_of_row _ _ _ _ _ _ hcb]; exact hcur _ _ (nCs_at hpl)
              have r1 := mod_cell h0 HMD.out (by omega)
              have r2 := mod_cell (HIT.out pl y hy) HMD.out (fun e => HG7.out e.symm)
              have hsl := (HWT.out y (List.mem_of_getElem? hy)).2
              have hsy : symAt its pl = y.2 := by simp [symAt, hy]
              have HTS : Hid ((pre ++ xl.take (k + 1)).map (symAt its) = (pre ++ xl.take k).map (symAt its) ++ [y.2]) := by
                show _ = _
                rw [List.take_add_one, hpl, List.map_append, List.map_append, List.map_append, List.append_assoc]
                simp [hsy]
              obtain ⟨sy, hsyy⟩ : ∃ sy, y.2 = sy := ⟨_, rfl⟩
              rw [hsyy] at r2 hsl HTS
              have hlen : (incW (List.replicate l 0) ((pre ++ xl.take k).map (symAt its))).length = l := by rw [incW_len, List.length_replicate]
              obtain ⟨v, hv⟩ : ∃ v, (incW (List.replicate l 0) ((pre ++ xl.take k).map (symAt its)))[sy]? = some v := ⟨_, List.getElem?_eq_getElem (by rw [hlen]; exact hsl)⟩
              have hgv : (incW (List.replicate l 0) ((pre ++ xl.take k).map (symAt its))).getD sy 0 = v := by rw [List.getD, hv]; rfl
              have hv15 : v ≤ 15 := by
                rw [← hgv, incW_getD _ _ _ (by rw [List.length_replicate]; exact hsl), List.getD, List.getElem?_replicate, if_pos hsl]
                show 0 + _ ≤ _
                have h1 := HCT2.out sy
                have h2 : xl = xl.take k ++ xl.drop k := (List.take_append_drop k xl).symm
                rw [h2, ← List.append_assoc, List.map_append, List.count_append] at h1
                omega
              have r3 := HNB2.out.cell hv
              have r4 : wr.frozen? ⟨g, sy, none⟩ = false := HNB2.out.free
              have HST : Hid (NB (wr.setCell ⟨g, sy, none⟩ (.int .i64 ((v : Int) + 1))) g (incW (List.replicate l 0) ((pre ++ xl.take (k + 1)).map (symAt its)))) := by
                have h1 := HNB2.out.set sy (v + 1)
                rw [Int.natCast_add] at h1
                rw [HTS.out, incW_append, incW_cons, hgv]
                exact h1
              clear hpl hy hcb hcur h0 hsy hsyy hlen hv hgv
              go_wp2
              go_roundg (gk - 1)
              case measure => omega
              case rel => exact ⟨k + 1, by omega, by go_num, HST.out, HMD.out.set _ _ (.inl rfl)⟩
            · obtain rfl : k = nx := by omega
              have htk : xl.take k = xl := List.take_of_length_le (by have := HNX.out; omega)
              have HNB3 := HNB2.out
              rw [htk, ← HTK.out] at HNB3
              have HNB4 := Lib.hid HNB3
              clear htk HNB3
              go_wp2
              go_roundg (GJ - 1)
              case measure => omega
              case rel => exact ⟨j + 1, by omega, by go_num, HNB4.out, HMD.out⟩
        · obtain rfl : j = tt := by omega
          have u1 : decide ((j : Int) < (j : Int)) = false := by simp
          have u1' : decide (j < j) = false := by simp
          go_wp2
          go_ret
          refine ⟨rfl, ?_, ?_⟩
          · have h1 := HNB2.out
            have hsy : ((row.take j).flatMap (·.2)).map (symAt its) = symsW its := by rw [HRW.out, symsP, symsW, HN.out, HTT.out]
            rw [hsy, ← HL.out, ← HRR.out] at h1
            exact h1
          · have h1 := HB1.out
            rw [HG.out] at h1
            have h3 : Below g w w2 := h1.trans (HB7.out.mono (Nat.le_of_lt HZ1.out))
            have h4 : Below g w wz := h3.trans (HBL.out.mono (by omega))
            exact h4.trans (HMD.out.below (Below.refl g wz) (by have := HNB.out.lt; omega) (fun r hr => by have : r = g := hr; omega))
/-- The reference's lengths. -/
theorem refLen_ok (A : Option Addr) (l c : Nat) (ns : List Nat) (B : Nat) (w : World) (hz : ns.length = l) (hl : l ≤ 320) (hb : Cells w B A (nCs ns)) (hB : B ≤ w.heap.size) (hok : ∀ n ∈ ns, n ≤ 1073741824) :
    Calls Tryz.prog 116 #[.slice A l c] w fun e w' => e = .returned (.slice (some ⟨w.heap.size, 0, none⟩) l l) ∧ NB w' w.heap.size (lensW ns) ∧ Below w.heap.size w w' := by
  match h : itemsW ns with
  | [] => exact refLen_none A l c ns B w hz hl hb hB h
  | [(x, s)] => exact refLen_one A l c ns B w x s hz hl hb hB h
  | a :: b :: r => exact refLen_many A l c ns B w hz hl hb hB hok (by rw [h]; simp)
end Go.Proofs.YtaknladkodibaaaGreatDoor
