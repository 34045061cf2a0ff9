/- Sorting a row of the call's own: what it owns ahead and behind. -/
import Derived.Test.YtbpgaaecifnohaaMgRunsPuts08
import Derived.Test.YtbpgaaecifnohaaMgRunsPuts01
import Derived.Shelf.GgSortFunc.InsertionK
import Derived.Test.YtbpgaaecifnohaaMgRunsPuts07
namespace Go.Proofs.Ytbpgaaecifnohaa
open Go.RowKit Go.Sort Go.Lib

section
variable {α : Type} {enc : α → List Value} {k : Nat}
theorem flatMap_len (hk : ∀ x, (enc x).length = k) : ∀ l : List α, (l.flatMap enc).length = l.length * k
  | [] => by simp
  | x :: l => by rw [List.flatMap_cons, List.length_append, flatMap_len hk l, hk, List.length_cons, Nat.succ_mul, Nat.add_comm]
variable [Inhabited α]
theorem flatK_list (hk : ∀ x, (enc x).length = k) (k0 : 0 < k) (l : List α) : (flatK enc k l.toArray).toList = l.flatMap enc := by
  apply List.ext_getElem?
  intro t
  by_cases ht : t < l.length * k
  · have hi : t / k < l.length := Nat.div_lt_of_lt_mul (by rwa [Nat.mul_comm] at ht)
    have hr : t % k < k := Nat.mod_lt _ k0
    have hx : l.toArray[t / k]! = l[t / k] := by simp [hi]
    obtain ⟨x, hxx⟩ : ∃ x, l[t / k] = x := ⟨_, rfl⟩
    rw [hxx] at hx
    obtain ⟨u, hu⟩ : ∃ u, (enc x)[t % k]? = some u := ⟨_, List.getElem?_eq_getElem (by rw [hk]; exact hr)⟩
    have e1 : (flatK enc k l.toArray)[t]! = u := by
      rw [get_flatK _ _ _ _ (by simpa using ht), hx]
      simp [List.getElem!_eq_getElem?_getD, hu]
    have e2 : (l.flatMap enc)[t]? = some u := by
      have h := flatten_at (X := l.map enc) (s := k) (i := t / k) (r := t % k) (x := enc x) (u := u) (fun x hx => by obtain ⟨y, _, rfl⟩ := List.mem_map.1 hx; exact hk y) (by rw [List.getElem?_map, List.getElem?_eq_getElem hi, hxx]; rfl) hu
      rw [Nat.div_add_mod'] at h
      rw [List.flatMap_def]
      exact h
    have hs : t < (flatK enc k l.toArray).size := by simpa using ht
    rw [e2, ← e1, Array.getElem?_toList, getElem!_pos (flatK enc k l.toArray) t hs, Array.getElem?_eq_getElem hs]
  · rw [List.getElem?_eq_none (by simp; omega), List.getElem?_eq_none (by rw [flatMap_len hk]; omega)]
theorem flatK_at (hk : ∀ x, (enc x).length = k) (k0 : 0 < k) {l : List α} {j : Nat} {u : Value} (h : (l.flatMap enc)[j]? = some u) : (flatK enc k l.toArray)[j]! = u := by
  rw [← flatK_list hk k0 l, Array.getElem?_toList] at h
  rw [Array.getElem!_eq_getD, Array.getD_eq_getD_getElem?, h]
  rfl
theorem holdsK_of_own {w : World} {base g n c : Nat} {e : TypeId} {l : List α} (hk : ∀ x, (enc x).length = k) (k0 : 0 < k) (h : w.ownsRow base e k (.slice (some ⟨g, 0, none⟩) n c) n (l.flatMap enc)) : HoldsK enc k w g 0 l.toArray := by
  rcases h.2 with ⟨h2, _⟩ | ⟨g', cap, cur, hv, hg, hh, hnc, hcm, hcs, htake⟩
  · cases h2
  · simp only [Value.slice.injEq, Option.some.injEq, Addr.mk.injEq] at hv
    obtain ⟨⟨rfl, _, _⟩, _, rfl⟩ := hv
    intro j hj
    have hjl : j < (l.flatMap enc).length := by
      rw [← flatK_list hk k0 l]
      exact hj
    obtain ⟨u, hu⟩ : ∃ u, (l.flatMap enc)[j]? = some u := ⟨_, List.getElem?_eq_getElem hjl⟩
    rw [flatK_at hk k0 hu]
    rw [← htake, List.getElem?_take_of_lt (by rw [← h.1]; exact hjl), Array.getElem?_toList] at hu
    exact ⟨by simp [World.cell?, hh, hu], by simp [World.frozen?, hh]⟩
theorem own_of_sorted {w : World} {base g n c m : Nat} {e : TypeId} {l : List α} {d' : Array α} {os : Array Obj} (hk : ∀ x, (enc x).length = k) (k0 : 0 < k) (h : w.ownsRow base e k (.slice (some ⟨g, 0, none⟩) n c) n (l.flatMap enc)) (hs : d'.size = n) :
    (sortWorldK enc k w g 0 m d' os).ownsRow base e k (.slice (some ⟨g, 0, none⟩) n c) n (d'.toList.flatMap enc) ∧ w.grownBy (sortWorldK enc k w g 0 m d' os) (some g) := by
  have hlen : (d'.toList.flatMap enc).length = n * k := by rw [flatMap_len hk, Array.length_toList, hs]
  rcases h.2 with ⟨h2, _⟩ | ⟨g', cap, cur, hv, hg, hh, hnc, hcm, hcs, htake⟩
  · cases h2
  · simp only [Value.slice.injEq, Option.some.injEq, Addr.mk.injEq] at hv
    obtain ⟨⟨rfl, _, _⟩, _, rfl⟩ := hv
    have hlt : g < w.heap.size := (Array.getElem?_eq_some_iff.1 hh).1
    have hsz : (sortWorldK enc k w g 0 m d' os).heap.size = w.heap.size + os.size := by simp [sortWorldK, grow, putRowK, putRow, mapBlock, Sort.ahead]
    have hblk : ∀ j, j < w.heap.size → (sortWorldK enc k w g 0 m d' os).heap[j]? = if g = j then (w.heap[j]?).map (onCells (putCells id 0 (flatK enc k d'))) else w.heap[j]? := by
      intro j hj
      simp only [sortWorldK, grow, putRowK, putRow, mapBlock, Sort.ahead]
      rw [Array.getElem?_append_left (by simpa using hj), Array.getElem?_modify]
    refine ⟨⟨hlen, .inr ⟨g, c, putCells id 0 (flatK enc k d') cur, rfl, hg, ?_, hnc, hcm, by simp [putCells, hcs], ?_⟩⟩, ⟨rfl, rfl, rfl, by rw [hsz]; omega, fun j hj hne => ?_⟩⟩
    · rw [hblk g hlt, if_pos rfl, hh]
      rfl
    · apply List.ext_getElem?
      intro t
      by_cases ht : t < n * k
      · have h1 : t < cur.size := by
          rw [hcs]
          exact Nat.lt_of_lt_of_le ht (Nat.mul_le_mul_right _ hnc)
        obtain ⟨u, hu⟩ : ∃ u, (d'.toList.flatMap enc)[t]? = some u := ⟨_, List.getElem?_eq_getElem (by rw [hlen]; exact ht)⟩
        have h2 : (flatK enc k d')[t]! = u := by
          have := flatK_at hk k0 hu
          simpa using this
        rw [List.getElem?_take_of_lt ht, Array.getElem?_toList, hu, putCells, Array.getElem?_mapIdx, Array.getElem?_eq_getElem h1]
        simp only [Option.map_some, Nat.zero_le, Nat.zero_add, true_and, Nat.sub_zero, size_flatK, hs, ht, if_true, h2, id]
      · rw [List.getElem?_eq_none (by rw [List.length_take]; omega), List.getElem?_eq_none (by rw [hlen]; omega)]
    · rw [hblk j hj, if_neg (fun e => hne (by rw [e]))]
end
end Go.Proofs.Ytbpgaaecifnohaa
/- Layer 7: the items of weights. -/
namespace Go.Proofs.Ytbpgaaecifnohaa
open Go.RowKit Go.Lib Go.Shelf Go.Sort

/-- Numbers' cells. -/
def nCs (ns : List Nat) : List Value := ns.map fun n : Nat => Value.int .i64 (n : Int)
theorem nCs_at {ns : List Nat} {k n : Nat} (h : ns[k]? = some n) : (nCs ns)[k]? = some (.int .i64 (n : Int)) := by simp [nCs, h]
theorem nCs_len (ns : List Nat) : (nCs ns).length = ns.length := by simp [nCs]
/-- The first k weights' items, in their order. -/
def itP (ns : List Nat) : Nat → List (Nat × Nat)
  | 0 => []
  | k + 1 => match ns[k]? with | some x => if 0 < x then itP ns k ++ [(x, k)] else itP ns k | none => itP ns k
theorem itP_yes {ns : List Nat} {k x : Nat} (h : ns[k]? = some x) (h0 : 0 < x) : itP ns (k + 1) = itP ns k ++ [(x, k)] := by rw [itP, h]; simp [h0]
theorem itP_no {ns : List Nat} {k x : Nat} (h : ns[k]? = some x) (h0 : ¬ 0 < x) : itP ns (k + 1) = itP ns k := by rw [itP, h]; simp [h0]
theorem itP_len (ns : List Nat) : ∀ k, (itP ns k).length ≤ k
  | 0 => Nat.le_refl _
  | k + 1 => by
    have ih := itP_len ns k
    rw [itP]
    split
    · split
      · rw [List.length_append]
        show (itP ns k).length + 1 ≤ _
        omega
      · omega
    · omega
/-- The items of weights, in the order of weights. -/
def itemsW (ns : List Nat) : List (Nat × Nat) := sortW (itP ns ns.length)
theorem itCs_snoc (l : List (Nat × Nat)) (x : Nat × Nat) : (l ++ [x]).flatMap itEn = l.flatMap itEn ++ (#[.int .i64 (x.1 : Int), .int .i64 (x.2 : Int), .pointer none, .pointer none] : Array Value).toList := by simp [itEn, elC]
theorem itEn4 : ∀ x, (itEn x).length = 4 := fun _ => rfl
/-- A sorted row's list. -/
theorem sorted_list {l : List (Nat × Nat)} {d' : Array (Nat × Nat)} (hp : PermIn 0 l.toArray.size l.toArray d') (hs : SortedIn (ltOf itCn) 0 l.toArray.size d') : d'.toList = sortW l := by
  have h := sorted_unique_holds (lt := ltOf itCn) itSwoN itTotN l.toArray d' hp hs
  rw [h]
  rfl
set_option maxHeartbeats 1000000 in
theorem items_any (A : Option Addr) (l c : Nat) (ns : List Nat) (B : Nat) (w : World) (hl : ns.length = l) (hm : l ≤ 1000) (hB : B ≤ w.heap.size) (hb : Cells w B A (nCs ns)) :
    Calls Try.prog 52 #[.slice A l c] w fun e w' => ∃ A' n' c', e = .returned (.slice A' n' c') ∧ n' = (itemsW ns).length ∧ w'.ownsRow w.heap.size 93 4 (.slice A' n' c') n' ((itemsW ns).flatMap itEn) ∧ Below w.heap.size w w' := by
  have HC := Lib.hid hb
  have HL := Lib.hid hl
  clear hb hl
  go_enter Try.func52, Try.ntmps52
  go_wp2
  go_loopg [3, 8] l (fun gk v i wr => ∃ k : Nat, k + gk = l ∧ i = .int .i64 k ∧ ∃ A1 n c1, v = .slice A1 n c1 ∧ n = (itP ns k).length ∧ wr.ownsRow w.heap.size 93 4 (.slice A1 n c1) n ((itP ns k).flatMap itEn) ∧ Below w.heap.size w wr)
  case atStart => exact ⟨0, by omega, rfl, none, 0, 0, rfl, rfl, World.ownsRow_nil _ _ _ _, Below.refl _ _⟩
  case round =>
    obtain ⟨k, hk, rfl, A1, n, c1, rfl, hn, hown, hbel⟩ := hrel
    have HOWN := Lib.hid hown
    have HBEL := Lib.hid hbel
    have HN := Lib.hid hn
    have hn1 : n ≤ k := by rw [hn]; exact itP_len ns k
    clear hown hbel hn
    by_cases h : k < l
    · obtain ⟨x, hx⟩ : ∃ x, ns[k]? = some x := ⟨_, List.getElem?_eq_getElem (by have := HL.out; omega)⟩
      obtain ⟨b, o, rfl, hbB, hc⟩ := (HC.out.below HBEL.out hB) (by rw [nCs_len, HL.out]; omega)
      have c0 : wr.cell? ⟨b, o + k, none⟩ = some (.int .i64 (x : Int)) := hc k _ (nCs_at hx)
      have HX := Lib.hid hx
      clear hx hc
      by_cases h0 : 0 < x
      · have hd : decide ((0 : Int) < (x : Int)) = true := by simp; omega
        go_wp2_with (at_builtin; refine wpList_app1 wr elElem rfl (.tmp 15) (.tmp 19) rfl w.heap.size (.slice A1 n c1) n ((itP ns k).flatMap itEn) rfl HOWN.out _ rfl rfl (by simp [Value.oneCell']) (by unfold maxLen; omega) (by omega) HBEL.out.size ?_; intro A' c' w2 hA; have HA := Lib.hid hA; clear hA)
        go_roundg (gk - 1)
        case measure => omega
        case rel => exact ⟨k + 1, by omega, by go_num, A', n + 1, c', rfl, by rw [itP_yes HX.out h0, List.length_append, ← HN.out]; rfl, by rw [itP_yes HX.out h0, itCs_snoc]; exact HA.out.own, HA.out.below HBEL.out HBEL.out.size (own_base HOWN.out)⟩
      · have hd : decide ((0 : Int) < (x : Int)) = false := by simp; omega
        go_wp2
        go_roundg (gk - 1)
        case measure => omega
        case rel => exact ⟨k + 1, by omega, by go_num, A1, n, c1, rfl, by rw [itP_no HX.out (by omega)]; exact HN.out, by rw [itP_no HX.out (by omega)]; exact HOWN.out, HBEL.out⟩
    · obtain rfl : k = l := by omega
      have HI : Hid (itemsW ns = sortW (itP ns k)) := by show _ = _; rw [itemsW, HL.out]
      have HIL : Hid (n = (itemsW ns).length) := by show _ = _; rw [HI.out, (sortW_perm _).length_eq]; exact HN.out
      rcases HOWN.out.2 with ⟨hv, hn0⟩ | ⟨g, cap, cur, hv, hg, hh, hrest⟩
      · obtain ⟨rfl, _, rfl⟩ : A1 = none ∧ n = 0 ∧ c1 = 0 := by simpa using hv
        have HS := Lib.hid (sortNone_any none 0 (.func (.func 74) #[] #[]) wr)
        have hnil : itemsW ns = [] := List.eq_nil_of_length_eq_zero (by rw [← HIL.out]; exact hn0)
        have HNIL := Lib.hid hnil
        clear hv hnil
        subst hn0
        go_wp2_with (go_at_call 73; refine HS.out.mono ?_; rintro e w' ⟨rfl, rfl⟩)
        go_ret
        exact ⟨none, 0, 0, rfl, HIL.out, by rw [HNIL.out]; exact World.ownsRow_nil _ _ _ _, HBEL.out⟩
      · obtain ⟨rfl, _, rfl⟩ : A1 = some ⟨g, 0, none⟩ ∧ n = n ∧ c1 = cap := by simpa using hv
        have HH := holdsK_of_own itEn4 (by omega) HOWN.out
        have HS := itSort_any g 0 c1 (itP ns k).toArray wr HH (Array.getElem?_eq_some_iff.1 hh).1 (by have := itP_len ns k; simp; omega)
        rw [show (itP ns k).toArray.size = n by rw [HN.out]; simp] at HS
        have HS2 := Lib.hid HS
        have HG : Hid (w.heap.size ≤ g) := hg
        clear HS HH hv hh hrest hg
        go_wp2_with (go_at_call 73; refine HS2.out.mono ?_; rintro e w7 ⟨rfl, hd⟩; have HD := Lib.hid hd; clear hd)
        go_ret
        obtain ⟨d', m, os, hp, hs, rfl⟩ := HD.out
        have hsz : (itP ns k).toArray.size = n := by rw [HN.out]; simp
        obtain ⟨o1, o2⟩ := own_of_sorted (m := m) (os := os) (d' := d') itEn4 (by omega) HOWN.out (by rw [hp.1, hsz])
        rw [sorted_list (by rw [hsz]; exact hp) (by rw [hsz]; exact hs), ← HI.out] at o1
        exact ⟨_, n, _, rfl, HIL.out, o1, HBEL.out.grown o2 HBEL.out.size (fun j hj => by cases hj; exact HG.out)⟩
end Go.Proofs.Ytbpgaaecifnohaa
