/- Layer 38: plan.Apply. -/
import Derived.Test.YtfnkbpcimbldbaaDoorMgQ32438
import Derived.Test.YtfnkbpcimbldbaaDoorLay
import Derived.Test.YtfnkbpcimbldbaaDoorMgQ32421
namespace Go.Proofs.YtfnkbpcimbldbaaDoor
open Go.RowKit Go.Maps

def xoCells (os : List XO) : List Value := (os.map XO.cells).flatten
theorem xo_len (os : List XO) : (xoCells os).length = os.length * 7 := by
  unfold xoCells
  induction os with
  | nil => rfl
  | cons f l ih => rw [List.map_cons, List.flatten_cons, List.length_append, ih, List.length_cons]; show 7 + _ = _; omega
theorem xo_at {w : World} {b o : Nat} {os : List XO} {k : Nat} {f : XO} (hc : ∀ j u, (xoCells os)[j]? = some u → w.cell? ⟨b, o + j, none⟩ = some u) (h : os[k]? = some f) :
    w.cell? ⟨b, o + k * 7, none⟩ = some (.int .i64 f.kd) ∧ w.cell? ⟨b, o + k * 7 + 1, none⟩ = some (.string f.nm) ∧ w.cell? ⟨b, o + k * 7 + 2, none⟩ = some (.slice f.ad f.data.length f.cp) ∧ w.cell? ⟨b, o + k * 7 + 3, none⟩ = some f.x3 ∧ w.cell? ⟨b, o + k * 7 + 4, none⟩ = some f.x4 ∧ w.cell? ⟨b, o + k * 7 + 5, none⟩ = some f.x5 ∧ w.cell? ⟨b, o + k * 7 + 6, none⟩ = some f.x6 := by
  have key : ∀ (r : Nat) (u : Value), f.cells[r]? = some u → w.cell? ⟨b, o + (k * 7 + r), none⟩ = some u := fun r u hu => hc _ _ (code_at (rs := os) (code := XO.cells) (s := 7) (fun _ _ => rfl) h hu)
  have k0 := key 0 _ rfl
  have k1 := key 1 _ rfl
  have k2 := key 2 _ rfl
  have k3 := key 3 _ rfl
  have k4 := key 4 _ rfl
  have k5 := key 5 _ rfl
  have k6 := key 6 _ rfl
  simp only [← Nat.add_assoc, Nat.add_zero] at k0 k1 k2 k3 k4 k5 k6
  exact ⟨k0, k1, k2, k3, k4, k5, k6⟩
/-- Steps done on a map, one by one: why one is refused, and the map behind them. -/
def applyAll : List Fi → List XO → Int × List Fi
  | l, [] => (0, l)
  | l, o :: os => if applyE l o = 0 then applyAll (applyM l o) os else (applyE l o, [])
theorem applyM_ris {l : List Fi} (h : Ris Fi.nm l) (o : XO) : Ris Fi.nm (applyM l o) := by
  unfold applyM applyF
  split
  · split
    · exact h.withK _
    · exact h.outK _
  · exact h
theorem applyM_mem {l : List Fi} {o : XO} {f : Fi} (h : f ∈ applyM l o) : f ∈ l ∨ f = o.fi := by
  unfold applyM applyF at h
  split at h
  · split at h
    · rcases mem_with.1 h with h | h
      · exact .inr h
      · exact .inl h.1
    · exact .inl (mem_out.1 h).1
  · exact .inl h
theorem applyM_len {l : List Fi} (h : Ris Fi.nm l) (o : XO) : (applyM l o).length ≤ l.length + 1 := by
  unfold applyM applyF
  split
  · split
    · exact len_with h _
    · have := len_out l o.nm; omega
  · omega
theorem with_take {fs : List Fi} (h : Ris Fi.nm fs) {k : Nat} {x : Fi} (hx : fs[k]? = some x) : withK Fi.nm (fs.take k) x = fs.take (k + 1) := by
  have ht : ∀ j, Ris Fi.nm (fs.take j) := fun j => List.Pairwise.sublist (List.take_sublist j fs) h
  refine risK_ext ((ht k).withK x) (ht (k + 1)) (fun y => ?_)
  rw [mem_with, List.take_add_one, hx, List.mem_append]
  have hne : y ∈ fs.take k → y.nm ≠ x.nm := fun hy => by
    obtain ⟨i, hi⟩ := List.mem_iff_getElem?.1 hy
    have hlt := (List.getElem?_eq_some_iff.1 hi).1
    rw [List.length_take] at hlt
    rw [List.getElem?_take_of_lt (by omega)] at hi
    obtain ⟨h1, rfl⟩ := List.getElem?_eq_some_iff.1 hi
    obtain ⟨h2, rfl⟩ := List.getElem?_eq_some_iff.1 hx
    exact ltN_ne (List.pairwise_iff_getElem.1 h i k h1 h2 (by omega))
  constructor
  · rintro (rfl | ⟨h1, _⟩)
    · exact .inr (by simp)
    · exact .inl h1
  · rintro (h1 | h1)
    · exact .inr ⟨h1, hne h1⟩
    · exact .inl (by simpa using h1)
theorem names_cellsF {l : List Fi} (h : Ris Fi.nm l) {ss : List (List UInt8)} (hp : ss.Perm (strKeys (dirF l))) : (ss.mergeSort (fun x y => decide (x ≤ y))).map encStr = nmV (l.map Fi.nm) ∧ ss.length = l.length := by
  refine ⟨?_, ?_⟩
  · rw [sort_namesF h hp, List.map_map]
    unfold nmV
    rw [List.map_map]
    refine List.map_congr_left fun e _ => ?_
    show Value.string ⟨e.nm.data.toList.toArray⟩ = Value.string e.nm
    simp
  · rw [hp.length_eq, keys_dirF, List.length_map]
theorem Keeps.app {w w7 : World} {base : Nat} {e : TypeId} {size n : Nat} {v v' : Value} {xs : List Value} {A : Option Addr} {bs : List UInt8} (h : Keeps w (ownS v) A bs) (hA : App w base e size v n xs w7 v') : Keeps w7 (ownS v') A bs := by
  have h2 := h.mod (Mod.of_app hA) (fun _ e => e)
  intro hp
  obtain ⟨b, f, e, g1, g2, _⟩ := h hp
  obtain ⟨b', f', e', _, g5, g6⟩ := h2 hp
  rw [e] at e'
  injection e' with e'
  injection e' with e1 e2 e3
  subst e1 e2
  exact ⟨b, f, e, fun hs => by
    rcases hA.place b hs with h3 | h3
    · exact g1 h3
    · omega, g5, g6⟩
/-- The other cells of a step are what a step has there. -/
def XO.well (o : XO) : Prop := ∃ n3 a4 l4 c4 n5 n6, o.x3 = .int .i64 n3 ∧ o.x4 = .slice a4 l4 c4 ∧ o.x5 = .int .i64 n5 ∧ o.x6 = .int .u8 n6
/-- What is known of a file that a map has. -/
def OkF (w : World) (B : Nat) (f : Fi) : Prop := Bytes w B f.ad f.data ∧ f.data.length ≤ 70000 ∧ f.nm.size ≤ 300
set_option maxRecDepth 100000 in
set_option maxHeartbeats 8000000 in
theorem applyAll_any (A1 A2 : Option Addr) (l1 c1 l2 c2 : Nat) (fs : List Fi) (os : List XO) (B : Nat) (w : World) (hl1 : fs.length = l1) (hl2 : os.length = l2) (hm1 : l1 ≤ 500) (hm2 : l2 ≤ 500) (hr : Ris Fi.nm fs) (hf : Files w B A1 fs) (ho : Cells w B A2 (xoCells os)) (hof : ∀ f ∈ fs, OkF w B f) (hoo : ∀ o ∈ os, OkF w B o.fi) (how : ∀ o ∈ os, o.well) (hB : B ≤ w.heap.size) :
    Calls Tryd.prog 16 #[.slice A1 l1 c1, .slice A2 l2 c2] w fun e w' => ∃ A' c' gs, e = .returned (.tuple #[.slice A' gs.length c', .int .i64 (applyAll fs os).1]) ∧ gs.map Fi.key = (applyAll fs os).2.map Fi.key ∧ Files w' w'.heap.size A' gs ∧ gs.length ≤ c' ∧ Below w.heap.size w w' := by
  have HF := Lib.hid hf
  have HO := Lib.hid ho
  have HL1 := Lib.hid hl1
  have HL2 := Lib.hid hl2
  have HR := Lib.hid hr
  have HOF := Lib.hid hof
  have HOO := Lib.hid hoo
  have HOW := Lib.hid how
  have HB := Lib.hid hB
  obtain ⟨b, hb⟩ : ∃ b, w.heap.size = b := ⟨_, rfl⟩
  obtain ⟨W1, hW1⟩ : ∃ W1, w.alloc (.map #[] 0) = W1 := ⟨_, rfl⟩
  have HM1 : Hid (MapF W1 b []) := by show MapF _ _ _; rw [← hW1, ← hb]; exact mapF_new w
  have HB1 : Hid (Below w.heap.size w W1) := by show Below _ _ _; rw [← hW1]; exact (Below.refl _ w).alloc (Nat.le_refl _) _
  have HBE := Lib.hid hb
  clear hf ho hl1 hl2 hr hof hoo how hB
  have hmm := @run_makeMap Tryd.prog
  go_enter Tryd.func16, Tryd.ntmps16
  go_wp2
  clear hmm
  go_loopg [8, 18] l1 (fun gk _ i wr => ∃ k : Nat, k + gk = l1 ∧ i = .int .i64 (k : Int) ∧ MapF wr b (fs.take k) ∧ Below w.heap.size w wr)
  case atStart => exact ⟨0, by omega, rfl, by rw [List.take_zero]; exact HM1.out, HB1.out⟩
  case round =>
    obtain ⟨k, hk, rfl, hmap, hbel⟩ := hrel
    have HMP := Lib.hid hmap
    have HBL := Lib.hid hbel
    clear hmap hbel
    by_cases h : k < l1
    · obtain ⟨x, hx⟩ : ∃ x, fs[k]? = some x := ⟨_, List.getElem?_eq_getElem (by have := HL1.out; omega)⟩
      obtain ⟨bb, oo, hbo, _, hc⟩ := (HF.out.below HBL.out HB.out).row (by rw [fi_len]; have := HL1.out; omega)
      obtain ⟨d0, d1⟩ := fi_at hc hx
      have HBO := Lib.hid hbo
      rw [hbo]
      have HX := Lib.hid (with_take HR.out hx)
      have hnx := (HOF.out x (List.mem_of_getElem? hx)).2.2
      have hki : (k : Int) < (l1 : Int) := by omega
      have hw1 : IntKind.i64.wrap ((k : Int) + 1) = (k : Int) + 1 := IntWalk.i64_in _ (by omega)
      obtain ⟨m, hm⟩ : ∃ m, wr.heap.size = m := ⟨_, rfl⟩
      obtain ⟨W6, hW6⟩ : ∃ W6, wr.alloc (.cells #[.string x.nm, .slice x.ad x.data.length x.cp] 32) = W6 := ⟨_, rfl⟩
      have hx6 : W6.heap[m]? = some (.cells #[.string x.nm, .slice x.ad x.data.length x.cp] 32 (0, 0)) := by rw [← hW6, ← hm]; exact heap_alloc_new wr _
      have HB6 : Hid (Below wr.heap.size wr W6) := by show Below _ _ _; rw [← hW6]; exact (Below.refl _ wr).alloc (Nat.le_refl _) _
      have u0 : W6.cell? ⟨wr.heap.size, 0, none⟩ = some (.string x.nm) := by rw [hm]; exact cell_of_row _ _ 0 _ _ _ hx6
      have u1 : W6.cell? ⟨wr.heap.size, 1, none⟩ = some (.slice x.ad x.data.length x.cp) := by rw [hm]; exact cell_of_row _ _ 1 _ _ _ hx6
      rw [hm] at u0 u1
      have hr6 : Ris Fi.nm (fs.take k) := List.Pairwise.sublist (List.take_sublist k fs) HR.out
      have HR6 := Lib.hid hr6
      have hkl : (fs.take k).length ≤ 500 := by rw [List.length_take]; omega
      have HM6 := Lib.hid (HMP.out.keep (Mod.of_below HB6.out) (fun e => e.elim))
      clear hx hc hbo hx6 hr6
      go_wp2_with (at_mapUpdate; refine wpList_mapUpdate_own _ rfl _ _ _ 60 rfl 9 30 strLawF Tryd.underlying60 readF b (fs.take k).length (dirF (fs.take k)) rfl HM6.out (by unfold maxLen; omega) _ _ (kS x.nm) rfl rfl (hkeyF (by omega)) (vF x) [] rfl ?_; intro w8 hown8 hgrow8; have HO8 := Lib.hid hown8; have HG8 := Lib.hid hgrow8; clear hown8 hgrow8)
      rw [← HBO.out]
      go_roundg (gk - 1)
      case measure => omega
      case rel =>
        refine ⟨k + 1, by omega, by go_num, by rw [← HX.out]; exact putF_in (m := x) HO8.out HR6.out, ?_⟩
        exact (mod_grown1 HG8.out).below (HBL.out.trans (HB6.out.mono HBL.out.size)) (Nat.le_trans HBL.out.size HB6.out.size) (fun j hj => by have e : j = b := hj; have := HBE.out; omega)
    · obtain rfl : l1 = k := by omega
      have hki : ¬ (l1 : Int) < (l1 : Int) := by omega
      have HM2 : Hid (MapF wr b fs) := by
        have := HMP.out
        rwa [List.take_of_length_le (by rw [HL1.out]; exact Nat.le_refl _)] at this
      have HBL2 := HBL
      go_wp2
      go_loopg [10, 11, 30] l2 (fun gk _ _ i wr => ∃ (k : Nat) (lk : List Fi), k + gk = l2 ∧ i = .int .i64 (k : Int) ∧ MapF wr b lk ∧ Ris Fi.nm lk ∧ lk.length ≤ 500 + k ∧ (∀ f ∈ lk, OkF w B f) ∧ applyAll fs os = applyAll lk (os.drop k) ∧ Below w.heap.size w wr)
      case atStart => exact ⟨0, fs, by omega, rfl, HM2.out, HR.out, by have := HL1.out; omega, HOF.out, by rw [List.drop_zero], HBL2.out⟩
      case round =>
        clear HM2 HBL2 HMP HBL
        obtain ⟨k, lk, hk, rfl, hmap, hrk, hlk, hok, hall, hbel⟩ := hrel
        have HMP := Lib.hid hmap
        have HBL := Lib.hid hbel
        have HRK := Lib.hid hrk
        have HOK := Lib.hid hok
        have HAL := Lib.hid hall
        clear hmap hbel hrk hok hall
        by_cases h : k < l2
        · obtain ⟨o, hx⟩ : ∃ x, os[k]? = some x := ⟨_, List.getElem?_eq_getElem (by have := HL2.out; omega)⟩
          obtain ⟨bb, oo, hbo, _, hc⟩ := (HO.out.below HBL.out HB.out) (by rw [xo_len]; have := HL2.out; omega)
          obtain ⟨d0, d1, d2, d3, d4, d5, d6⟩ := xo_at hc hx
          have HBO := Lib.hid hbo
          rw [hbo]
          have HDR : Hid (os.drop k = o :: os.drop (k + 1)) := by
            obtain ⟨h1, h2⟩ := List.getElem?_eq_some_iff.1 hx
            show _ = _
            rw [← h2]
            exact List.drop_eq_getElem_cons h1
          have HOX := Lib.hid (HOO.out o (List.mem_of_getElem? hx))
          have hki2 : (k : Int) < (l2 : Int) := by omega
          have hw1 : IntKind.i64.wrap ((k : Int) + 1) = (k : Int) + 1 := IntWalk.i64_in _ (by omega)
          obtain ⟨m, hm⟩ : ∃ m, wr.heap.size = m := ⟨_, rfl⟩
          obtain ⟨n3, a4, l4, c4, n5, n6, e3, e4, e5, e6⟩ := HOW.out o (List.mem_of_getElem? hx)
          rw [e3] at d3
          rw [e4] at d4
          rw [e5] at d5
          rw [e6] at d6
          obtain ⟨W6, hW6⟩ : ∃ W6, wr.alloc (.cells #[.int .i64 o.kd, .string o.nm, .slice o.ad o.data.length o.cp, .int .i64 n3, .slice a4 l4 c4, .int .i64 n5, .int .u8 n6] 49) = W6 := ⟨_, rfl⟩
          have hx6 : W6.heap[m]? = some (.cells #[.int .i64 o.kd, .string o.nm, .slice o.ad o.data.length o.cp, .int .i64 n3, .slice a4 l4 c4, .int .i64 n5, .int .u8 n6] 49 (0, 0)) := by rw [← hW6, ← hm]; exact heap_alloc_new wr _
          have HB6 : Hid (Below wr.heap.size wr W6) := by show Below _ _ _; rw [← hW6]; exact (Below.refl _ wr).alloc (Nat.le_refl _) _
          have u0 : W6.cell? ⟨m, 0, none⟩ = some (.int .i64 o.kd) := cell_of_row _ _ 0 _ _ _ hx6
          have u1 : W6.cell? ⟨m, 1, none⟩ = some (.string o.nm) := cell_of_row _ _ 1 _ _ _ hx6
          have u2 : W6.cell? ⟨m, 2, none⟩ = some (.slice o.ad o.data.length o.cp) := cell_of_row _ _ 2 _ _ _ hx6
          have u3 : W6.cell? ⟨m, 3, none⟩ = some (.int .i64 n3) := cell_of_row _ _ 3 _ _ _ hx6
          have u4 : W6.cell? ⟨m, 4, none⟩ = some (.slice a4 l4 c4) := cell_of_row _ _ 4 _ _ _ hx6
          have u5 : W6.cell? ⟨m, 5, none⟩ = some (.int .i64 n5) := cell_of_row _ _ 5 _ _ _ hx6
          have u6 : W6.cell? ⟨m, 6, none⟩ = some (.int .u8 n6) := cell_of_row _ _ 6 _ _ _ hx6
          have HM6 := Lib.hid (HMP.out.keep (Mod.of_below HB6.out) (fun e => e.elim))
          have HAP := Lib.hid (apply1_any b lk o W6 HM6.out HRK.out HOX.out.2.2 (by omega))
          unfold XO.agg at HAP
          rw [e3, e4, e5, e6] at HAP
          have HB6W := Lib.hid (HBL.out.trans (HB6.out.mono HBL.out.size))
          obtain ⟨E, hE⟩ : ∃ E, applyE lk o = E := ⟨_, rfl⟩
          rw [hE] at HAP
          have HE := Lib.hid hE
          clear hx hc hbo hx6 hE e3 e4 e5 e6
          by_cases hE0 : E = 0
          · subst hE0
            have HST : Hid (applyAll fs os = applyAll (applyM lk o) (os.drop (k + 1))) := by
              show _ = _
              rw [HAL.out, HDR.out]
              show (if applyE lk o = 0 then _ else _) = _
              rw [if_pos HE.out]
            go_wp2_with (go_at_call 30; refine HAP.out.mono ?_; rintro e w7 ⟨rfl, hm7, hd7⟩; have HM7 := Lib.hid hm7; have HD7 := Lib.hid hd7; clear hm7 hd7)
            rw [← HBO.out]
            go_roundg (gk - 1)
            case measure => omega
            case rel =>
              refine ⟨k + 1, applyM lk o, by omega, by go_num, HM7.out, applyM_ris HRK.out o, by have := applyM_len HRK.out o; omega, fun f hf => ?_, HST.out, ?_⟩
              · rcases applyM_mem hf with hf | rfl
                · exact HOK.out f hf
                · exact HOX.out
              · exact HD7.out.below HB6W.out HB6W.out.size (fun j hj => by have e : j = b := hj; have := HBE.out; omega)
          · have HST : Hid (applyAll fs os = (E, [])) := by
              show _ = _
              rw [HAL.out, HDR.out]
              show (if applyE lk o = 0 then _ else (applyE lk o, [])) = _
              rw [HE.out, if_neg hE0]
            have tE : (E == 0) = false := by simpa using hE0
            go_wp2_with (go_at_call 30; refine HAP.out.mono ?_; rintro e w7 ⟨rfl, hm7, hd7⟩; have HM7 := Lib.hid hm7; have HD7 := Lib.hid hd7; clear hm7 hd7)
            go_ret2
            refine ⟨none, 0, [], by (first | (rw [HST.out]; done) | (rw [HST.out]; rfl)), by (first | (rw [HST.out]; done) | (rw [HST.out]; rfl)), ⟨fun hp => absurd hp (Nat.lt_irrefl _), by intro f hf; cases hf⟩, Nat.le_refl _, ?_⟩
            (try rw [← HBE.out])
            exact HD7.out.below HB6W.out HB6W.out.size (fun j hj => by have e : j = b := hj; have := HBE.out; omega)
        · obtain rfl : l2 = k := by omega
          have hki2 : ¬ (l2 : Int) < (l2 : Int) := by omega
          have HST : Hid (applyAll fs os = (0, lk)) := by
            have := HAL.out
            rw [List.drop_of_length_le (by rw [HL2.out]; exact Nat.le_refl _)] at this
            exact this
          have hsz : Maps.size (dirF lk) ≤ maxLen := by rw [size_dirF]; unfold maxLen; omega
          have hby : Maps.size (dirF lk) * 16 ≤ 140737488355328 := by rw [size_dirF]; omega
          have HKY := Lib.hid (callsIn_wide.1 (Tryd.maps_Keys_32 (some b) wr))
          have HSR := Lib.hid (callsIn_wide.1 (Tryd.slices_Sorted_keys_31_32 b lk.length (dirF lk) _ wr HMP.out hsz hby))
          clear hsz hby
          go_wp2_with (first
            | (go_at_call 32; refine HKY.out.mono ?_; rintro e w1 ⟨rfl, rfl⟩)
            | (go_at_call 31; refine HSR.out.mono ?_; rintro e w2 ⟨v, ss, rfl, hp, hown, _, hb2⟩; obtain ⟨h1, h2⟩ := names_cellsF HRK.out hp; rw [h1, h2] at hown; obtain ⟨An, cn, rfl⟩ := own_form hown; have HN2 := Lib.hid (cells_of_ownF hown); have HB2 := Lib.hid (HBL.out.trans (((Below.refl _ wr).alloc (Nat.le_refl _) (.cells #[.map (some b)] 60)).mono HBL.out.size |>.trans (hb2.mono (by rw [World.size_alloc]; have := HBL.out.size; omega)))); have HM2 := Lib.hid (HMP.out.keep ((Mod.of_below ((Below.refl _ wr).alloc (Nat.le_refl _) (.cells #[.map (some b)] 60))).trans (Mod.of_below hb2) (fun _ e => e.elim)) (fun e => e.elim)); clear hb2 hown hp h1 h2))
          have HWB : Hid (b < w2.heap.size) := HM2.out.lt
          go_loopg [12, 14, 45] lk.length (fun gk v _ i wr => ∃ (k : Nat) (Ao : Option Addr) (co : Nat) (gs : List Fi), k + gk = lk.length ∧ v = .slice Ao gs.length co ∧ i = .int .i64 (k : Int) ∧ gs.map Fi.key = (lk.take k).map Fi.key ∧ wr.ownsRow w2.heap.size 32 2 (.slice Ao gs.length co) gs.length (fiCells gs) ∧ (∀ f ∈ gs, Keeps wr (ownS (.slice Ao gs.length co)) f.ad f.data ∧ f.data.length ≤ f.cp) ∧ Below w2.heap.size w2 wr)
          case atStart => exact ⟨0, none, 0, [], by omega, rfl, rfl, rfl, World.ownsRow_nil _ _ _ _, (by intro f hf; cases hf), Below.refl _ _⟩
          case round =>
            obtain ⟨k, Ao, co, gs, hk, rfl, rfl, hgk, hown, hkp, hbel⟩ := hrel
            have HGK := Lib.hid hgk
            have HO3 := Lib.hid hown
            have HKP := Lib.hid hkp
            have HB3 := Lib.hid hbel
            have hgl : gs.length = (lk.take k).length := by have h1 := congrArg List.length hgk; rwa [List.length_map, List.length_map] at h1
            rw [List.length_take] at hgl
            have HGL : Hid (k ≤ lk.length → gs.length = k) := fun h => by rw [hgl]; omega
            have hgl2 : gs.length ≤ 2000 := by rw [hgl]; omega
            clear hgk hown hkp hbel hgl
            by_cases h3 : k < lk.length
            · obtain ⟨x, hx⟩ : ∃ x, lk[k]? = some x := ⟨_, List.getElem?_eq_getElem h3⟩
              obtain ⟨bb, oo, hbo, _, hc⟩ := (HN2.out.below HB3.out (Nat.le_refl _)) (by unfold nmV; rw [List.length_map, List.length_map]; omega)
              have d0 := hc k (.string x.nm) (by unfold nmV; rw [List.getElem?_map, List.getElem?_map, hx]; rfl)
              have HBO := Lib.hid hbo
              rw [hbo]
              have hok := HOK.out x (List.mem_of_getElem? hx)
              have hok1 := hok.2.1
              have hok2 := hok.2.2
              have hfk : findK Fi.nm lk x.nm = some x := (find_mem HRK.out).2 ⟨List.mem_of_getElem? hx, rfl⟩
              have hlk2 := lookF (HM2.out.keep (Mod.of_below HB3.out) (fun e => e.elim)) HRK.out (s := x.nm) (by omega)
              rw [hfk] at hlk2
              unfold slO Fi.sl at hlk2
              have HTK : Hid ((lk.take (k + 1)).map Fi.key = (lk.take k).map Fi.key ++ [x.key]) := by
                show _ = _
                rw [List.take_add_one, hx, List.map_append]
                rfl
              have hki3 : (k : Int) < (lk.length : Int) := by omega
              have hw1 : IntKind.i64.wrap ((k : Int) + 1) = (k : Int) + 1 := IntWalk.i64_in _ (by omega)
              have HBW := Lib.hid (HB2.out.trans (HB3.out.mono HB2.out.size))
              have HCL := Lib.hid (cloneB_any x.ad x.data.length x.cp x.data B wr rfl (by omega) (hok.1.below HBW.out HB.out))
              clear hx hc hbo hok hfk
              go_wp2_with (first
                | (go_at_call 27; refine HCL.out.mono ?_; rintro e w5 ⟨A5, c5, rfl, ho5, hb5⟩; have HO5 := Lib.hid ho5; have HB5 := Lib.hid hb5; clear ho5 hb5)
                | (at_builtin; go_must (skip; refine wpList_app1 w5 fileElem rfl (.tmp 49) (.tmp 56) rfl w2.heap.size (.slice Ao gs.length co) gs.length _ rfl (own_keep HO3.out (Mod.of_below HB5.out) (fun _ _ e => e.elim)) #[.string x.nm, .slice A5 x.data.length c5] rfl rfl (by intro u hu; simp only [List.mem_cons, List.not_mem_nil, or_false] at hu; rcases hu with rfl | rfl <;> rfl) (by unfold maxLen; omega) (by omega) (Nat.le_trans HB3.out.size HB5.out.size) ?_; intro A6 c6 w6 hA; have HA := Lib.hid hA; clear hA)))
              rw [← HBO.out]
              go_roundg (gk - 1)
              case measure => omega
              case rel =>
                have hB35 := HB3.out.trans (HB5.out.mono HB3.out.size)
                refine ⟨k + 1, A6, c6, gs ++ [⟨x.nm, x.data, A5, c5⟩], by omega, by rw [List.length_append]; rfl, by go_num, by rw [List.map_append, HGK.out, HTK.out]; rfl, ?_, fun f hf => ?_, HA.out.below hB35 hB35.size (fun j hj => (HO3.out.lt j hj).1)⟩
                · rw [fiCells_snoc, List.length_append]
                  exact HA.out.own
                · rw [List.length_append]
                  rcases List.mem_append.1 hf with hf | hf
                  · exact ⟨((HKP.out f hf).1.mod (Mod.of_below HB5.out) (fun _ e => e.elim)).app HA.out, (HKP.out f hf).2⟩
                  · rw [List.mem_singleton] at hf
                    subst hf
                    exact ⟨(Keeps.of_own HO5.out (fun j hj => (HO3.out.lt j hj).2)).app HA.out, own_capF HO5.out⟩
            · obtain rfl : lk.length = k := by omega
              have hki3 : ¬ (lk.length : Int) < (lk.length : Int) := by omega
              go_wp2
              go_ret2
              refine ⟨Ao, co, gs, by rw [HST.out]; rfl, ?_, ⟨cells_of_ownF HO3.out, fun f hf => ⟨(HKP.out f hf).1.bytes, (HKP.out f hf).2⟩⟩, own_capF HO3.out, by (try rw [← HBE.out]); exact HB2.out.trans (HB3.out.mono HB2.out.size)⟩
              rw [HST.out]
              have := HGK.out
              rwa [List.take_length] at this
end Go.Proofs.YtfnkbpcimbldbaaDoor
/- Layer 38: plan.Back; the reference's Apply. -/
namespace Go.Proofs.YtfnkbpcimbldbaaDoor
open Go.RowKit Go.Maps

theorem ris_of_key {fs gs : List Fi} (h : fs.map Fi.key = gs.map Fi.key) (hr : Ris Fi.nm gs) : Ris Fi.nm fs := by
  rw [ris_key, h]
  exact ris_key.1 hr
theorem applyAll_ris : ∀ (os : List XO) {l : List Fi}, Ris Fi.nm l → Ris Fi.nm (applyAll l os).2
  | [], _, h => h
  | o :: os, l, h => by
    show Ris Fi.nm (if applyE l o = 0 then applyAll (applyM l o) os else (applyE l o, [])).2
    split
    · exact applyAll_ris os (applyM_ris h o)
    · exact ris_nil
theorem applyAll_len : ∀ (os : List XO) {l : List Fi}, Ris Fi.nm l → (applyAll l os).2.length ≤ l.length + os.length
  | [], l, _ => Nat.le_add_right _ _
  | o :: os, l, h => by
    show (if applyE l o = 0 then applyAll (applyM l o) os else (applyE l o, [])).2.length ≤ _
    rw [List.length_cons]
    split
    · have h1 := applyAll_len os (applyM_ris h o)
      have h2 := applyM_len h o
      omega
    · exact Nat.zero_le _
/-- The steps back. -/
def backL (fs : List Fi) (os : List XO) : List PO := if (applyAll fs os).1 = 0 then diffL ((applyAll fs os).2.map Fi.key) (fs.map Fi.key) else []
set_option maxRecDepth 100000 in
set_option maxHeartbeats 2000000 in
theorem back38_any (A1 A2 : Option Addr) (l1 c1 l2 c2 : Nat) (fs : List Fi) (os : List XO) (B : Nat) (w : World) (hl1 : fs.length = l1) (hl2 : os.length = l2) (hm1 : l1 ≤ 500) (hm2 : l2 ≤ 500) (hc1 : l1 ≤ c1) (hr : Ris Fi.nm fs) (hf : Files w B A1 fs) (ho : Cells w B A2 (xoCells os)) (hof : ∀ f ∈ fs, OkF w B f) (hoo : ∀ o ∈ os, OkF w B o.fi) (how : ∀ o ∈ os, o.well) (hB : B ≤ w.heap.size) :
    Calls Tryd.prog 18 #[.slice A1 l1 c1, .slice A2 l2 c2] w fun e w' => ∃ A' c' ps, e = .returned (.tuple #[.slice A' ps.length c', .int .i64 (applyAll fs os).1]) ∧ ps.map OL.po = backL fs os ∧ Ops w' w'.heap.size A' ps ∧ Below w.heap.size w w' := by
  have HA := Lib.hid (applyAll_any A1 A2 l1 c1 l2 c2 fs os B w hl1 hl2 hm1 hm2 hr hf ho hof hoo how hB)
  have HD : Hid (∀ V A' c' gs, Below w.heap.size w V → gs.map Fi.key = (applyAll fs os).2.map Fi.key → Files V V.heap.size A' gs → gs.length ≤ c' → Calls Tryd.prog 13 #[.slice A' gs.length c', .slice A1 l1 c1] V fun e w' => ∃ A3 c3 ps, e = .returned (.slice A3 ps.length c3) ∧ ps.map OL.po = diffL ((applyAll fs os).2.map Fi.key) (fs.map Fi.key) ∧ Ops w' w'.heap.size A3 ps ∧ Below V.heap.size V w') := fun V A' c' gs hV hk hg hc => by
    have hgl : gs.length ≤ 1000 := by
      have h1 := congrArg List.length hk
      rw [List.length_map, List.length_map] at h1
      have := applyAll_len os hr
      omega
    rw [← hk]
    exact diff_any A' A1 gs.length c' l1 c1 gs fs V.heap.size V rfl hl1 (by omega) (by omega) ⟨hc, Nat.zero_le _⟩ ⟨hc1, Nat.zero_le _⟩ (ris_of_key hk (applyAll_ris os hr)) hr hg ((hf.below hV hB).more (Nat.le_trans hB hV.size)) (fun f hf => by have := (hof f hf).2.1; omega) (Nat.le_refl _)
  obtain ⟨E, hE⟩ : ∃ E, (applyAll fs os).1 = E := ⟨_, rfl⟩
  have hbl : backL fs os = if E = 0 then diffL ((applyAll fs os).2.map Fi.key) (fs.map Fi.key) else [] := by unfold backL; rw [hE]
  rw [hE] at HA ⊢
  have HBL := Lib.hid hbl
  clear hl1 hl2 hm1 hm2 hc1 hr hf ho hof hoo how hB hE hbl
  by_cases hE0 : E = 0
  · subst hE0
    have HBT : Hid (backL fs os = diffL ((applyAll fs os).2.map Fi.key) (fs.map Fi.key)) := by show _ = _; rw [HBL.out]; exact if_pos rfl
    go_enter Tryd.func18, Tryd.ntmps18
    go_wp2_with (first
      | (go_at_call 16; refine HA.out.mono ?_; rintro e w2 ⟨A', c', gs, rfl, hk, hg, hc, hb2⟩; have HD2 := Lib.hid (HD.out w2 A' c' gs hb2 hk hg hc); have HB2 := Lib.hid hb2; clear hk hg hc hb2)
      | (go_at_call 13; refine HD2.out.mono ?_; rintro e w3 ⟨A3, c3, ps, rfl, hk3, hg3, hb3⟩; have HK3 := Lib.hid hk3; have HG3 := Lib.hid hg3; have HB3 := Lib.hid hb3; clear hk3 hg3 hb3))
    go_ret2
    exact ⟨A3, c3, ps, rfl, by rw [HK3.out, HBT.out], HG3.out, HB2.out.trans (HB3.out.mono HB2.out.size)⟩
  · have tE : (E == 0) = false := by simpa using hE0
    have HBN : Hid (backL fs os = []) := by show _ = _; rw [HBL.out, if_neg hE0]
    go_enter Tryd.func18, Tryd.ntmps18
    go_wp2_with (go_at_call 16; refine HA.out.mono ?_; rintro e w2 ⟨A', c', gs, rfl, _, _, _, hb2⟩; have HB2 := Lib.hid hb2; clear hb2)
    go_ret2
    exact ⟨none, 0, [], rfl, by rw [HBN.out]; rfl, ⟨fun hp => absurd hp (Nat.lt_irrefl _), by intro o ho; cases ho⟩, HB2.out⟩
end Go.Proofs.YtfnkbpcimbldbaaDoor
