/- Layer 38: what a map of names and slices reads as, as a list that rises. -/
import Derived.Test.YtfnkbpcimbldbaaDoorMgQ32436
import Derived.Maps.OwnSet
import Derived.Maps.OwnOps
import Derived.Maps.Ext
import Derived.StringKeys
import Derived.Sort.KeysCollected
import Derived.Sort.Walk0
namespace Go.Proofs.YtfnkbpcimbldbaaDoor
open Go.RowKit Go.Maps

def kS (s : ByteArray) : Lit := .string s.data.toList
def Fi.sl (f : Fi) : Value := .slice f.ad f.data.length f.cp
def vF (f : Fi) : DataW Value := .held f.sl
def dirG (l : List Fi) : List (Lit × DataW Value) := l.map fun e => (kS e.nm, vF e)
def dirF (l : List Fi) : DataW Value := .map (dirG l)
theorem mem_out {α : Type} {k : α → ByteArray} {l : List α} {s : ByteArray} {x : α} : x ∈ outK k l s ↔ x ∈ l ∧ k x ≠ s := by
  unfold outK
  rw [List.mem_filter]
  simp
theorem kS_key (s : ByteArray) : WideAt.IsKeyLit (kS s) := trivial
theorem toList_data (s : ByteArray) : s.toList = s.data.toList := ByteArray.toList_eq s
theorem kS_inj {a b : ByteArray} (h : kS a = kS b) : a = b := by
  unfold kS at h
  injection h with h
  exact nm_eq (by rw [toList_data, toList_data, h])
theorem before_less : ∀ a b : List UInt8, bytesBefore a b = Op.bytesLess a b
  | [], [] => rfl
  | [], _ :: _ => rfl
  | _ :: _, [] => rfl
  | a :: x, b :: y => by simp only [bytesBefore, Op.bytesLess]; rw [before_less x y]
theorem kS_before (a b : ByteArray) : (kS a).before (kS b) = ltN a b := by
  unfold kS ltN
  rw [toList_data, toList_data]
  exact before_less _ _
theorem canon_dirF {l : List Fi} (h : Ris Fi.nm l) : Canon (dirF l) := by
  refine ⟨dirG l, rfl, ?_, fun p hp => ?_⟩
  · unfold dirG
    rw [List.pairwise_map]
    exact h.imp fun {a b} hab => by rw [kS_before]; exact hab
  · unfold dirG at hp
    obtain ⟨e, _, rfl⟩ := List.mem_map.1 hp
    exact kS_key _
theorem has_dirF {l : List Fi} {k : Lit} : has (dirF l) k = true ↔ ∃ e ∈ l, kS e.nm = k := by
  unfold dirF
  rw [has_eq, List.any_eq_true]
  constructor
  · rintro ⟨p, hp, hk⟩
    unfold dirG at hp
    obtain ⟨e, he, rfl⟩ := List.mem_map.1 hp
    refine ⟨e, he, ?_⟩
    by_cases h : kS e.nm = k
    · exact h
    · rw [show (kS e.nm).sameKey k = false from sameKey_ne h] at hk; cases hk
  · rintro ⟨e, he, rfl⟩
    exact ⟨(kS e.nm, vF e), List.mem_map.2 ⟨e, he, rfl⟩, WideAt.sameKey_self (kS_key _)⟩
theorem has_dirFs (l : List Fi) (s : ByteArray) : has (dirF l) (kS s) = hasK Fi.nm l s := by
  rw [Bool.eq_iff_iff, has_dirF, hasK_iff]
  constructor
  · rintro ⟨e, he, hk⟩; exact ⟨e, he, kS_inj hk⟩
  · rintro ⟨e, he, hk⟩; exact ⟨e, he, by rw [hk]⟩
theorem at_dirF {l : List Fi} (h : Ris Fi.nm l) {e : Fi} (he : e ∈ l) (z : DataW Value) : (dirF l).atKey (kS e.nm) z = vF e := by
  refine WideAt.atKey_mem z (kS_key _) ?_ (List.mem_map.2 ⟨e, he, rfl⟩)
  obtain ⟨es, h1, h2, _⟩ := canon_dirF h
  injection h1 with h1
  rw [show dirG l = es from h1]
  exact apart_of_rising h2
theorem isMap_dirF (l : List Fi) : IsMap (dirF l) := ⟨_, rfl⟩
theorem put_dirF {l : List Fi} (h : Ris Fi.nm l) (m : Fi) (c : Canon ((dirF l).put (kS m.nm) (vF m))) : (dirF l).put (kS m.nm) (vF m) = dirF (withK Fi.nm l m) := by
  refine Maps.ext c (canon_dirF (h.withK m)) (fun k => ?_) (fun k z hk => ?_)
  · by_cases e : k = kS m.nm
    · subst e
      rw [has_put_same (isMap_dirF l) (kS_key _)]
      exact (has_dirF.2 ⟨m, mem_with.2 (.inl rfl), rfl⟩).symm
    · rw [has_put_other e, Bool.eq_iff_iff, has_dirF, has_dirF]
      constructor
      · rintro ⟨x, hx, rfl⟩
        exact ⟨x, mem_with.2 (.inr ⟨hx, fun h => e (by rw [h])⟩), rfl⟩
      · rintro ⟨x, hx, rfl⟩
        rcases mem_with.1 hx with rfl | ⟨hx, _⟩
        · exact absurd rfl e
        · exact ⟨x, hx, rfl⟩
  · by_cases e : k = kS m.nm
    · subst e
      rw [atKey_put_same (isMap_dirF l) (kS_key _)]
      exact (at_dirF (h.withK m) (mem_with.2 (.inl rfl)) z).symm
    · rw [has_put_other e] at hk
      obtain ⟨x, hx, rfl⟩ := has_dirF.1 hk
      rw [atKey_put_other e, at_dirF h hx z]
      exact (at_dirF (h.withK m) (mem_with.2 (.inr ⟨hx, fun h => e (by rw [h])⟩)) z).symm
theorem del_dirF {l : List Fi} (h : Ris Fi.nm l) (s : ByteArray) (c : Canon ((dirF l).del (kS s))) : (dirF l).del (kS s) = dirF (outK Fi.nm l s) := by
  refine Maps.ext c (canon_dirF (h.outK s)) (fun k => ?_) (fun k z hk => ?_)
  · by_cases e : k = kS s
    · subst e
      rw [has_del_same, has_dirFs]
      exact (hasK_not.2 (fun x hx => (mem_out.1 hx).2)).symm
    · rw [has_del_other e, Bool.eq_iff_iff, has_dirF, has_dirF]
      constructor
      · rintro ⟨x, hx, rfl⟩
        exact ⟨x, mem_out.2 ⟨hx, fun h => e (by rw [h])⟩, rfl⟩
      · rintro ⟨x, hx, rfl⟩
        exact ⟨x, (mem_out.1 hx).1, rfl⟩
  · by_cases e : k = kS s
    · subst e
      rw [has_del_same] at hk
      cases hk
    · rw [has_del_other e] at hk
      obtain ⟨x, hx, rfl⟩ := has_dirF.1 hk
      rw [atKey_del_other e, at_dirF h hx z]
      exact (at_dirF (h.outK s) (mem_out.2 ⟨hx, fun h => e (by rw [h])⟩) z).symm
theorem size_dirF (l : List Fi) : Maps.size (dirF l) = l.length := by
  unfold dirF
  rw [size_eq]
  unfold dirG
  rw [List.length_map]
theorem len_with {l : List Fi} (h : Ris Fi.nm l) (m : Fi) : (withK Fi.nm l m).length ≤ l.length + 1 := by
  cases hq : hasK Fi.nm l m.nm with
  | true => have := len_withK_there h m hq; omega
  | false => have := len_withK_new h m hq; omega
theorem len_out (l : List Fi) (s : ByteArray) : (outK Fi.nm l s).length ≤ l.length := List.length_filter_le _ _
theorem strLawF : Keyed Tryd.prog 9 := string_keyed Tryd.underlying9
def readF (v : Value) : Option (DataW Value × List MemPlace) := some (.held v, [])
theorem zeroF (w : World) : (zeroValue 30).run Tryd.prog w = .ok (.slice none 0 0) w := by kernel_rfl
def MapIF (w : World) (b n : Nat) (l : List Fi) : Prop := w.ownsMap Tryd.prog 9 readF b n (dirF l)
/-- A map in memory that reads as a list. -/
def MapF (w : World) (b : Nat) (l : List Fi) : Prop := MapIF w b l.length l
theorem MapIF.tight {w : World} {b n : Nat} {l : List Fi} (h : MapIF w b n l) : MapF w b l := by
  obtain ⟨es, cl, hb, F, hs, hD⟩ := h
  refine ⟨es, cl, hb, F, ?_, hD⟩
  have h1 := congrArg Maps.size hD
  rw [size_dirF, size_eq, length_read] at h1
  omega
theorem MapF.keep {w w' : World} {b : Nat} {l : List Fi} {S : Nat → Prop} (h : MapF w b l) (hm : Mod S w w') (hS : ¬ S b) : MapF w' b l := by
  obtain ⟨es, cl, hb, F, hs, hD⟩ := h
  exact ⟨es, cl, hm.keep hb hS, F, hs, hD⟩
theorem MapF.lt {w : World} {b : Nat} {l : List Fi} (h : MapF w b l) : b < w.heap.size := World.ownsMap.lt h
theorem mapF_new (w : World) : MapF (w.alloc (.map #[] 0)) w.heap.size [] := World.ownsMap_made w _ _ _
theorem hkeyF {s : ByteArray} (h : s.size ≤ 1000) : keyOf Tryd.prog 9 (.string s) = some (kS s) := WideMaps.keyOf_string_mk Tryd.underlying9 (by unfold maxLen; omega)
theorem putF_in {w : World} {b n : Nat} {l : List Fi} {m : Fi} (h : w.ownsMap Tryd.prog 9 readF b n ((dirF l).put (kS m.nm) (vF m))) (hr : Ris Fi.nm l) : MapF w b (withK Fi.nm l m) := by
  have h2 : MapIF w b n (withK Fi.nm l m) := by
    unfold MapIF
    rw [← put_dirF hr m (h.canon strLawF)]
    exact h
  exact h2.tight
theorem delF_in {w : World} {b n : Nat} {l : List Fi} {s : ByteArray} (h : w.ownsMap Tryd.prog 9 readF b n ((dirF l).del (kS s))) (hr : Ris Fi.nm l) : MapF w b (outK Fi.nm l s) := by
  have h2 : MapIF w b n (outK Fi.nm l s) := by
    unfold MapIF
    rw [← del_dirF hr s (h.canon strLawF)]
    exact h
  exact h2.tight
def slO (o : Option Fi) : Value := match o with
  | none => .slice none 0 0
  | some f => f.sl
theorem at_findF {l : List Fi} (h : Ris Fi.nm l) (s : ByteArray) : (dirF l).atKey (kS s) (.held (.slice none 0 0)) = .held (slO (findK Fi.nm l s)) := by
  cases e : findK Fi.nm l s with
  | none =>
    have hh : hasK Fi.nm l s = false := by rw [← findK_some, e]; rfl
    exact atKey_of_not_has (by rw [has_dirFs]; exact hh) _
  | some x =>
    obtain ⟨h1, h2⟩ := findK_at e
    rw [← h1]
    exact at_dirF h h2 _
theorem lookF {w : World} {b : Nat} {l : List Fi} {s : ByteArray} (h : MapF w b l) (hr : Ris Fi.nm l) (hs : s.size ≤ 1000) : (Instr.lookup 60 (.map (some b)) (.string s) false).run Tryd.prog w = .ok (slO (findK Fi.nm l s)) w := by
  obtain ⟨v, ps, hrun, hv⟩ := World.ownsMap.lookup h strLawF Tryd.underlying60 (zeroF w) (zd := .held (.slice none 0 0)) (zp := []) rfl (hkeyF hs)
  rw [at_findF hr] at hv
  unfold readF at hv
  simp only [Option.some.injEq, Prod.mk.injEq, DataW.held.injEq] at hv
  rw [hrun, hv.1]
theorem look_okF {w : World} {b : Nat} {l : List Fi} {s : ByteArray} (h : MapF w b l) (hr : Ris Fi.nm l) (hs : s.size ≤ 1000) : (Instr.lookup 60 (.map (some b)) (.string s) true).run Tryd.prog w = .ok (.tuple #[slO (findK Fi.nm l s), .bool (hasK Fi.nm l s)]) w := by
  obtain ⟨v, ps, hrun, hv⟩ := World.ownsMap.look_ok h strLawF Tryd.underlying60 (zeroF w) (zd := .held (.slice none 0 0)) (zp := []) rfl (hkeyF hs)
  rw [at_findF hr] at hv
  unfold readF at hv
  simp only [Option.some.injEq, Prod.mk.injEq, DataW.held.injEq] at hv
  rw [hrun, hv.1, has_dirFs]
theorem lenF {w : World} {b : Nat} {l : List Fi} (h : MapF w b l) (ty : TypeId) : (Builtin.len_ #[60] ty #[.map (some b)]).run Tryd.prog w = .ok (.int .i64 (l.length : Int)) w := by
  rw [World.ownsMap.len h Tryd.underlying60 ty, size_dirF]
theorem keys_dirF (l : List Fi) : strKeys (dirF l) = l.map fun e => e.nm.data.toList := by
  show (List.map (fun e => (kS e.nm, vF e)) l).map (fun p => strOf p.fst) = _
  rw [List.map_map]
  rfl
theorem le_less (a b : List UInt8) : decide (a ≤ b) = !Op.bytesLess b a := by
  rw [bytesLess_eq]
  by_cases h : b < a
  · rw [decide_eq_true h, decide_eq_false (by intro h2; exact h2 h)]; rfl
  · rw [decide_eq_false h, decide_eq_true (show a ≤ b from h)]; rfl
theorem sort_namesF {l : List Fi} (h : Ris Fi.nm l) {ss : List (List UInt8)} (hp : ss.Perm (strKeys (dirF l))) : ss.mergeSort (fun x y => decide (x ≤ y)) = l.map fun e => e.nm.data.toList := by
  rw [keys_dirF] at hp
  refine List.Perm.eq_of_pairwise (le := fun x y => decide (x ≤ y) = true) (fun a b _ _ h1 h2 => ?_) ?_ ?_ ((List.mergeSort_perm _ _).trans hp)
  · rw [le_less] at h1 h2
    simp only [Bool.not_eq_true'] at h1 h2
    exact bl_total _ _ h2 h1
  · refine List.pairwise_mergeSort (fun a b c h k => ?_) (fun a b => ?_) ss
    · simp only [decide_eq_true_eq] at h k ⊢
      exact List.le_trans h k
    · simp only [Bool.or_eq_true, decide_eq_true_eq]
      exact List.le_total a b
  · rw [List.pairwise_map]
    refine h.imp fun {a b} hab => ?_
    rw [le_less, ← toList_data, ← toList_data]
    rw [show Op.bytesLess b.nm.toList a.nm.toList = false from bl_asymm _ _ hab]
    rfl
end Go.Proofs.YtfnkbpcimbldbaaDoor
/- Layer 38: plan.apply: one step done on a map. -/
namespace Go.Proofs.YtfnkbpcimbldbaaDoor
open Go.RowKit Go.Maps

/-- A step that came in: what counts of it, and its other cells. -/
structure XO where
  kd : Int
  nm : ByteArray
  data : List UInt8
  ad : Option Addr
  cp : Nat
  x3 : Value
  x4 : Value
  x5 : Value
  x6 : Value
def XO.cells (o : XO) : List Value := [.int .i64 o.kd, .string o.nm, .slice o.ad o.data.length o.cp, o.x3, o.x4, o.x5, o.x6]
def XO.agg (o : XO) : Value := .agg #[.int .i64 o.kd, .string o.nm, .slice o.ad o.data.length o.cp, o.x3, o.x4, o.x5, o.x6]
def XO.box (o : XO) : Obj := .cells #[.int .i64 o.kd, .string o.nm, .slice o.ad o.data.length o.cp, o.x3, o.x4, o.x5, o.x6] 49
def XO.fi (o : XO) : Fi := ⟨o.nm, o.data, o.ad, o.cp⟩
def XO.po (o : XO) : PO := (o.kd, o.nm, o.data)
/-- Why a step is refused; 0, if it isn't. -/
def applyE (l : List Fi) (o : XO) : Int :=
  if o.kd = 3 then if rightB o.nm.data.toList = false then 6 else if 65536 < o.data.length then 5 else if hasK Fi.nm l o.nm = false ∧ 200 ≤ l.length then 14 else 0
  else if o.kd = 11 then if hasK Fi.nm l o.nm = true then 0 else 7 else 1
def applyF (l : List Fi) (o : XO) : List Fi := if o.kd = 3 then withK Fi.nm l o.fi else outK Fi.nm l o.nm
/-- The map behind it. -/
def applyM (l : List Fi) (o : XO) : List Fi := if applyE l o = 0 then applyF l o else l
theorem mod_grown1 {w w' : World} {b : Nat} (h : w.grownBy w' (some b)) : Mod (oneB b) w w' := ⟨h.os, h.tape, h.output, h.size, fun k hk hn => h.block k hk fun e => hn (by injection e)⟩
theorem mod_turned {w w' : World} {b : Nat} (h : w.mapTurned w' b) : Mod (oneB b) w w' := mod_grown1 h.grown
set_option maxRecDepth 100000 in
set_option maxHeartbeats 4000000 in
theorem apply1_any (b : Nat) (l : List Fi) (o : XO) (w : World) (hm : MapF w b l) (hr : Ris Fi.nm l) (hn : o.nm.size ≤ 300) (hll : l.length ≤ 1000) :
    Calls Tryd.prog 30 #[.map (some b), o.agg] w fun e w' => e = .returned (.int .i64 (applyE l o)) ∧ MapF w' b (applyM l o) ∧ Mod (oneB b) w w' := by
  obtain ⟨kd, nm, data, ad, cp, x3, x4, x5, x6⟩ := o
  unfold XO.agg
  dsimp only
  have hn : nm.size ≤ 300 := hn
  obtain ⟨W1, hW1⟩ : ∃ W1, w.alloc (.cells #[.int .i64 kd, .string nm, .slice ad data.length cp, x3, x4, x5, x6] 49) = W1 := ⟨_, rfl⟩
  have hb1 : Below w.heap.size w W1 := by rw [← hW1]; exact (Below.refl _ w).alloc (Nat.le_refl _) _
  have hx1 : W1.heap[w.heap.size]? = some (.cells #[.int .i64 kd, .string nm, .slice ad data.length cp, x3, x4, x5, x6] 49 (0, 0)) := by rw [← hW1]; exact heap_alloc_new w _
  have HC : Hid (∀ V, Below W1.heap.size W1 V → V.cell? ⟨w.heap.size, 0, none⟩ = some (.int .i64 kd) ∧ V.cell? ⟨w.heap.size, 1, none⟩ = some (.string nm) ∧ V.cell? ⟨w.heap.size, 2, none⟩ = some (.slice ad data.length cp)) := fun V hV => by
    have := (hV.block _ (Array.getElem?_eq_some_iff.1 hx1).1).trans hx1
    exact ⟨cell_of_row _ _ 0 _ _ _ this, cell_of_row _ _ 1 _ _ _ this, cell_of_row _ _ 2 _ _ _ this⟩
  have HMV : Hid (∀ V, Below w.heap.size w V → MapF V b l) := fun V hV => hm.keep (Mod.of_below hV) (fun e => e.elim)
  have HB1 := Lib.hid hb1
  have HR := Lib.hid hr
  obtain ⟨e0, e1, e2⟩ := HC.out W1 (Below.refl _ _)
  have hlk := look_okF (HMV.out W1 hb1) hr (s := nm) (by omega)
  have HRM := Lib.hid (rightM_any nm W1 (by unfold maxLen; omega))
  obtain ⟨rb, hrb⟩ : ∃ rb, rightB nm.data.toList = rb := ⟨_, rfl⟩
  rw [hrb] at HRM
  have HRB := Lib.hid hrb
  obtain ⟨th, hth⟩ : ∃ t, hasK Fi.nm l nm = t := ⟨_, rfl⟩
  rw [hth] at hlk
  have HTH := Lib.hid hth
  obtain ⟨sv, hsv⟩ : ∃ v, slO (findK Fi.nm l nm) = v := ⟨_, rfl⟩
  rw [hsv] at hlk
  clear hm hr hx1 hb1 hrb hth hsv
  have HE : ∀ (r : Int) (w' : World), applyE l ⟨kd, nm, data, ad, cp, x3, x4, x5, x6⟩ = r → r ≠ 0 → Below w.heap.size w w' → Value.int .i64 r = .int .i64 (applyE l ⟨kd, nm, data, ad, cp, x3, x4, x5, x6⟩) ∧ MapF w' b (applyM l ⟨kd, nm, data, ad, cp, x3, x4, x5, x6⟩) ∧ Mod (oneB b) w w' := fun r w' h1 h2 h3 => by
    unfold applyM
    rw [h1, if_neg h2]
    exact ⟨rfl, HMV.out w' h3, (Mod.of_below h3).mono (fun _ e => e.elim)⟩
  have HEE := Lib.hid HE
  clear HE
  by_cases k3 : kd = 3
  · subst k3
    cases rb with
    | false =>
      have HAE : Hid (applyE l ⟨3, nm, data, ad, cp, x3, x4, x5, x6⟩ = 6) := by show _ = _; unfold applyE; rw [if_pos rfl, if_pos HRB.out]
      go_enter Tryd.func30, Tryd.ntmps30
      go_wp2_with (go_at_call 22; refine HRM.out.mono ?_; rintro e w7 ⟨rfl, hb7⟩; have HB7 := Lib.hid hb7; obtain ⟨f0, f1, f2⟩ := HC.out w7 hb7; clear hb7)
      go_ret
      obtain ⟨g1, g2, g3⟩ := HEE.out 6 w7 HAE.out (by decide) (HB1.out.trans (HB7.out.mono HB1.out.size))
      exact ⟨congrArg Ending.returned g1, g2, g3⟩
    | true =>
      by_cases hd : 65536 < data.length
      · have td : decide (65536 < (data.length : Int)) = true := by simp; omega
        have HAE : Hid (applyE l ⟨3, nm, data, ad, cp, x3, x4, x5, x6⟩ = 5) := by show _ = _; unfold applyE; rw [if_pos rfl, if_neg (by rw [HRB.out]; decide), if_pos hd]
        clear hd
        go_enter Tryd.func30, Tryd.ntmps30
        go_wp2_with (go_at_call 22; refine HRM.out.mono ?_; rintro e w7 ⟨rfl, hb7⟩; have HB7 := Lib.hid hb7; obtain ⟨f0, f1, f2⟩ := HC.out w7 hb7; clear hb7)
        go_ret
        obtain ⟨g1, g2, g3⟩ := HEE.out 5 w7 HAE.out (by decide) (HB1.out.trans (HB7.out.mono HB1.out.size))
        exact ⟨congrArg Ending.returned g1, g2, g3⟩
      · have td : decide (65536 < (data.length : Int)) = false := by simp; omega
        by_cases hlim : hasK Fi.nm l nm = false ∧ 200 ≤ l.length
        · obtain ⟨hl1, hl2⟩ := hlim
          have HAE : Hid (applyE l ⟨3, nm, data, ad, cp, x3, x4, x5, x6⟩ = 14) := by show _ = _; unfold applyE; rw [if_pos rfl, if_neg (by rw [HRB.out]; decide), if_neg hd, if_pos ⟨hl1, hl2⟩]
          obtain rfl : th = false := HTH.out.symm.trans hl1
          have tl : decide (200 ≤ (l.length : Int)) = true := by simp; omega
          clear hd hl1 hl2
          go_enter Tryd.func30, Tryd.ntmps30
          go_wp2_with (first
            | (go_at_call 22; refine HRM.out.mono ?_; rintro e w7 ⟨rfl, hb7⟩; have HB7 := Lib.hid hb7; obtain ⟨f0, f1, f2⟩ := HC.out w7 hb7; have hlen := fun ty => lenF (HMV.out w7 (HB1.out.trans (hb7.mono HB1.out.size))) ty; clear hb7))
          go_ret
          obtain ⟨g1, g2, g3⟩ := HEE.out 14 w7 HAE.out (by decide) (HB1.out.trans (HB7.out.mono HB1.out.size))
          exact ⟨congrArg Ending.returned g1, g2, g3⟩
        · have HAE : Hid (applyE l ⟨3, nm, data, ad, cp, x3, x4, x5, x6⟩ = 0) := by show _ = _; unfold applyE; rw [if_pos rfl, if_neg (by rw [HRB.out]; decide), if_neg hd, if_neg hlim]
          have HAM : Hid (applyM l ⟨3, nm, data, ad, cp, x3, x4, x5, x6⟩ = withK Fi.nm l ⟨nm, data, ad, cp⟩) := by
            show _ = _
            unfold applyM
            rw [HAE.out, if_pos rfl]
            exact if_pos rfl
          have tl : th = true ∨ (th = false ∧ decide (200 ≤ (l.length : Int)) = false) := by
            cases th with
            | true => exact .inl rfl
            | false => exact .inr ⟨rfl, decide_eq_false (fun h => hlim ⟨HTH.out, by omega⟩)⟩
          clear hd hlim
          rcases tl with rfl | ⟨rfl, tl⟩
          · go_enter Tryd.func30, Tryd.ntmps30
            go_wp2_with (first
              | (go_at_call 22; refine HRM.out.mono ?_; rintro e w7 ⟨rfl, hb7⟩; have HB7 := Lib.hid (HB1.out.trans (hb7.mono HB1.out.size)); obtain ⟨f0, f1, f2⟩ := HC.out w7 hb7; clear hb7)
              | (at_mapUpdate; refine wpList_mapUpdate_own _ rfl _ _ _ 60 rfl 9 30 strLawF Tryd.underlying60 readF b l.length (dirF l) rfl (HMV.out w7 HB7.out) (by unfold maxLen; omega) _ _ (kS nm) rfl rfl (hkeyF (by omega)) (vF ⟨nm, data, ad, cp⟩) [] rfl ?_; intro w8 hown8 hgrow8; have HO8 := Lib.hid hown8; have HG8 := Lib.hid hgrow8; clear hown8 hgrow8))
            go_ret
            exact ⟨by rw [HAE.out]; rfl, by rw [HAM.out]; exact putF_in (m := ⟨nm, data, ad, cp⟩) HO8.out HR.out, (((Mod.of_below HB7.out).mono (T := oneB b) (fun _ e => e.elim)).trans (mod_grown1 HG8.out) (fun _ e => .inl e))⟩
          · go_enter Tryd.func30, Tryd.ntmps30
            go_wp2_with (first
              | (go_at_call 22; refine HRM.out.mono ?_; rintro e w7 ⟨rfl, hb7⟩; have HB7 := Lib.hid (HB1.out.trans (hb7.mono HB1.out.size)); obtain ⟨f0, f1, f2⟩ := HC.out w7 hb7; have hlen := fun ty => lenF (HMV.out w7 HB7.out) ty; clear hb7)
              | (at_mapUpdate; refine wpList_mapUpdate_own _ rfl _ _ _ 60 rfl 9 30 strLawF Tryd.underlying60 readF b l.length (dirF l) rfl (HMV.out w7 HB7.out) (by unfold maxLen; omega) _ _ (kS nm) rfl rfl (hkeyF (by omega)) (vF ⟨nm, data, ad, cp⟩) [] rfl ?_; intro w8 hown8 hgrow8; have HO8 := Lib.hid hown8; have HG8 := Lib.hid hgrow8; clear hown8 hgrow8))
            go_ret
            exact ⟨by rw [HAE.out]; rfl, by rw [HAM.out]; exact putF_in (m := ⟨nm, data, ad, cp⟩) HO8.out HR.out, (((Mod.of_below HB7.out).mono (T := oneB b) (fun _ e => e.elim)).trans (mod_grown1 HG8.out) (fun _ e => .inl e))⟩
  · have t3 : (kd == 3) = false := by simpa using k3
    by_cases k11 : kd = 11
    · subst k11
      cases th with
      | false =>
        have HAE : Hid (applyE l ⟨11, nm, data, ad, cp, x3, x4, x5, x6⟩ = 7) := by show _ = _; unfold applyE; rw [if_neg k3, if_pos rfl, if_neg (by rw [HTH.out]; decide)]
        clear k3
        go_enter Tryd.func30, Tryd.ntmps30
        go_wp2
        go_ret
        obtain ⟨g1, g2, g3⟩ := HEE.out 7 W1 HAE.out (by decide) HB1.out
        exact ⟨congrArg Ending.returned g1, g2, g3⟩
      | true =>
        have HAE : Hid (applyE l ⟨11, nm, data, ad, cp, x3, x4, x5, x6⟩ = 0) := by show _ = _; unfold applyE; rw [if_neg k3, if_pos rfl, if_pos HTH.out]
        have HAM : Hid (applyM l ⟨11, nm, data, ad, cp, x3, x4, x5, x6⟩ = outK Fi.nm l nm) := by
          show _ = _
          unfold applyM
          rw [HAE.out, if_pos rfl]
          exact if_neg (show ¬ (11 : Int) = 3 by decide)
        obtain ⟨w8, hrun, ho8, hg8⟩ := World.ownsMap.drop (HMV.out W1 HB1.out) strLawF Tryd.underlying60 (hkeyF (s := nm) (by omega)) (0 : Nat)
        have HO8 := Lib.hid ho8
        have HG8 := Lib.hid hg8
        clear ho8 hg8 k3
        go_enter Tryd.func30, Tryd.ntmps30
        go_wp2
        go_ret
        exact ⟨by rw [HAE.out]; rfl, by rw [HAM.out]; exact delF_in HO8.out HR.out, (((Mod.of_below HB1.out).mono (T := oneB b) (fun _ e => e.elim)).trans (mod_turned HG8.out) (fun _ e => .inl e))⟩
    · have HAE : Hid (applyE l ⟨kd, nm, data, ad, cp, x3, x4, x5, x6⟩ = 1) := by show _ = _; unfold applyE; rw [if_neg k3, if_neg k11]
      have t11 : (kd == 11) = false := by simpa using k11
      go_enter Tryd.func30, Tryd.ntmps30
      go_wp2
      go_ret
      obtain ⟨g1, g2, g3⟩ := HEE.out 1 W1 HAE.out (by decide) HB1.out
      exact ⟨congrArg Ending.returned g1, g2, g3⟩
end Go.Proofs.YtfnkbpcimbldbaaDoor
