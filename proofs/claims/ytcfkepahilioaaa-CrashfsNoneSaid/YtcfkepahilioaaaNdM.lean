/- Layer 5: changes done on a map. -/
import Derived.Test.YtcfkepahilioaaaNdQ
import Derived.Test.YtcfkepahilioaaaFoot
import Derived.Test.YtcfkepahilioaaaLists
import Derived.Test.YtcfkepahilioaaaRows
import Derived.Test.YtcfkepahilioaaaGrow
import Derived.Maps.OwnSet
import Derived.Maps.OwnOps
import Derived.WalkMore
import Derived.Deep.Cut
import Derived.Deep.DeepCutAuto
import Derived.Deep.LoopGhost
import Derived.BigQuiet
import Derived.RegionTactic
import Derived.StringKeys
namespace Go.Proofs.Ytcfkepahilioaaa
open Go.RowKit Go.Maps

def Ch.cells (c : Ch) : List Value := [.string c.fr, .string c.to, .int .i64 c.id]
def chCells (cs : List Ch) : List Value := (cs.map Ch.cells).flatten
theorem ch_len (cs : List Ch) : (chCells cs).length = cs.length * 3 := by
  unfold chCells
  induction cs with
  | nil => rfl
  | cons f l ih => rw [List.map_cons, List.flatten_cons, List.length_append, ih, List.length_cons]; show 3 + _ = _; omega
theorem ch_at {w : World} {b o : Nat} {cs : List Ch} {k : Nat} {f : Ch} (hc : ∀ j u, (chCells cs)[j]? = some u → w.cell? ⟨b, o + j, none⟩ = some u) (h : cs[k]? = some f) :
    w.cell? ⟨b, o + k * 3, none⟩ = some (.string f.fr) ∧ w.cell? ⟨b, o + k * 3 + 1, none⟩ = some (.string f.to) ∧ w.cell? ⟨b, o + k * 3 + 2, none⟩ = some (.int .i64 f.id) := by
  have key : ∀ (r : Nat) (u : Value), f.cells[r]? = some u → w.cell? ⟨b, o + (k * 3 + r), none⟩ = some u := fun r u hu => hc _ _ (code_at (rs := cs) (code := Ch.cells) (s := 3) (fun _ _ => rfl) h hu)
  have k0 := key 0 _ rfl
  have k1 := key 1 _ rfl
  have k2 := key 2 _ rfl
  simp only [← Nat.add_assoc, Nat.add_zero] at k0 k1 k2
  exact ⟨k0, k1, k2⟩
theorem strLaw : Keyed Try.prog 9 := string_keyed Try.underlying9
theorem zeroI (w : World) : (zeroValue 3).run Try.prog w = .ok (.int .i64 0) w := by kernel_rfl
def MapIn (w : World) (b n : Nat) (l : List Nt) : Prop := w.ownsMap Try.prog 9 (plainElem (H := Unit) Try.prog 3) b n (dirD l)
/-- A map in memory that reads as a list. -/
def MapN (w : World) (b : Nat) (l : List Nt) : Prop := MapIn w b l.length l
theorem MapIn.tight {w : World} {b n : Nat} {l : List Nt} (h : MapIn w b n l) : MapN w b l := by
  obtain ⟨es, cl, hb, F, hs, hD⟩ := h
  refine ⟨es, cl, hb, F, ?_, hD⟩
  have h1 := congrArg Maps.size hD
  rw [size_dirD, size_eq, length_read] at h1
  omega
theorem MapN.keep {w w' : World} {b : Nat} {l : List Nt} {S : Nat → Prop} (h : MapN w b l) (hm : Mod S w w') (hS : ¬ S b) : MapN w' b l := by
  obtain ⟨es, cl, hb, F, hs, hD⟩ := h
  exact ⟨es, cl, hm.keep hb hS, F, hs, hD⟩
theorem MapN.lt {w : World} {b : Nat} {l : List Nt} (h : MapN w b l) : b < w.heap.size := World.ownsMap.lt h
theorem hkeyS {s : ByteArray} (h : s.size ≤ 1000) : keyOf Try.prog 9 (.string s) = some (kS s) := WideMaps.keyOf_string_mk Try.underlying9 (by unfold maxLen; omega)
/-- Cells lie in no map. -/
theorem cells_map {w w' : World} {B b : Nat} {A : Option Addr} {xs : List Value} {l : List Nt} (h : Cells w B A xs) (hm : MapN w b l) (hg : w.grownBy w' (some b)) : Cells w' B A xs := fun hp => by
  obtain ⟨b', o, e, hb, hc⟩ := h hp
  obtain ⟨es, cl, hmb, _⟩ := hm
  have hne : b' ≠ b := fun e' => by
    subst e'
    have := hc 0 _ (List.getElem?_eq_getElem hp)
    simp [World.cell?, hmb] at this
  refine ⟨b', o, e, hb, fun j u hj => ?_⟩
  have h1 := hc j u hj
  have hlt := World.block_lt_of_cell? w _ h1
  have h2 := hg.block b' hlt (fun e' => hne (by injection e'))
  unfold World.cell? at h1 ⊢
  show (match w'.heap[b']? with | some (.cells cs _ _) => _ | _ => _) = _
  rw [h2]
  exact h1
theorem put_in {w : World} {b n : Nat} {l : List Nt} {s : ByteArray} {i : Int} (h : w.ownsMap Try.prog 9 (plainElem (H := Unit) Try.prog 3) b n ((dirD l).put (kS s) (vD i))) (hr : Ris Nt.nm l) : MapN w b (withK Nt.nm l ⟨s, i⟩) := by
  have h2 : MapIn w b n (withK Nt.nm l ⟨s, i⟩) := by
    unfold MapIn
    rw [← put_dirD hr ⟨s, i⟩ (h.canon strLaw)]
    exact h
  exact h2.tight
theorem del_in {w : World} {b n : Nat} {l : List Nt} {s : ByteArray} (h : w.ownsMap Try.prog 9 (plainElem (H := Unit) Try.prog 3) b n ((dirD l).del (kS s))) (hr : Ris Nt.nm l) : MapN w b (outK Nt.nm l s) := by
  have h2 : MapIn w b n (outK Nt.nm l s) := by
    unfold MapIn
    rw [← del_dirD hr s (h.canon strLaw)]
    exact h
  exact h2.tight
theorem with_len {l : List Nt} (h : Ris Nt.nm l) (m : Nt) : (withK Nt.nm l m).length ≤ l.length + 1 := by
  cases hq : hasK Nt.nm l m.nm with
  | true => have := len_withK_there h m hq; omega
  | false => have := len_withK_new h m hq; omega
theorem out_len (l : List Nt) (s : ByteArray) : (outK Nt.nm l s).length ≤ l.length := List.length_filter_le _ _
theorem step1_len {l : List Nt} (h : Ris Nt.nm l) (c : Ch) : (step1 l c).length ≤ l.length + 1 := by
  unfold step1
  split
  · omega
  · refine Nat.le_trans (out_len _ _) ?_
    unfold mid1
    split
    · exact with_len h _
    · split
      · omega
      · exact with_len h _
theorem doN_len {l : List Nt} (h : Ris Nt.nm l) (cs : List Ch) : (doN l cs).length ≤ l.length + cs.length := by
  induction cs generalizing l with
  | nil => simp [doN]
  | cons c cs ih =>
    have h1 := ih (step1_ris h c)
    have h2 := step1_len h c
    show (doN (step1 l c) cs).length ≤ _
    rw [List.length_cons]
    omega
theorem takeC_snoc {l : List Ch} {k : Nat} {x : Ch} (h : l[k]? = some x) : l.take (k + 1) = l.take k ++ [x] := by rw [List.take_add_one, h]; rfl
theorem emp_dec (a : ByteArray) : a.toList.isEmpty = decide (a = noN) := by
  rw [Bool.eq_iff_iff, List.isEmpty_iff, decide_eq_true_eq]
  constructor
  · intro h
    exact nm_eq (by rw [h]; exact (ByteArray.toList_eq noN).symm)
  · rintro rfl
    exact ByteArray.toList_eq noN
set_option maxRecDepth 100000 in
set_option maxHeartbeats 1000000 in
theorem do_any (b : Nat) (l : List Nt) (A : Option Addr) (m c : Nat) (cs : List Ch) (n : Int) (B : Nat) (w : World) (hm : MapN w b l) (hr : Ris Nt.nm l) (hl : cs.length = m) (hmx : m ≤ 1000) (hll : l.length ≤ 100000) (hC : Cells w B A (chCells cs))
    (hs : ∀ c ∈ cs, c.fr.size ≤ 1000 ∧ c.to.size ≤ 1000 ∧ (Lit.int .i64 c.id).wf = true) :
    Calls Try.prog 58 #[.map (some b), .slice A m c, .int .i64 n] w fun e w' => e = .returned (.tuple #[]) ∧ MapN w' b (doN l (cs.take n.toNat)) ∧ w.grownBy w' (some b) := by
  have HM := Lib.hid hm
  have HL := Lib.hid hl
  have HR := Lib.hid hr
  have HC := Lib.hid hC
  have HS := Lib.hid hs
  clear hm hl hr hC hs
  go_enter Try.func58, Try.ntmps58
  go_wp2
  go_step3
  go_wp2
  go_step3
  go_wp2
  go_loopg [6, 7, 10] m (fun gk _ _ i wr => ∃ k : Nat, k + gk = m ∧ i = .int .i64 k ∧ (k = 0 ∨ (k : Int) ≤ n) ∧ MapN wr b (doN l (cs.take k)) ∧ w.grownBy wr (some b))
  case atStart => exact ⟨0, by omega, rfl, .inl rfl, HM.out, World.grownBy.refl _ _⟩
  case round =>
    obtain ⟨k, hk, rfl, hkn, hmk, hgw⟩ := hrel
    have HMK := Lib.hid hmk
    have HGW := Lib.hid hgw
    clear hmk hgw
    by_cases h : k < m
    · obtain ⟨f, hf⟩ : ∃ f, cs[k]? = some f := ⟨_, List.getElem?_eq_getElem (by have := HL.out; omega)⟩
      have HCK := cells_map HC.out HM.out HGW.out
      obtain ⟨b', o, rfl, hbB, hc⟩ := HCK (by rw [ch_len]; have := HL.out; omega)
      obtain ⟨c0, c1, c2⟩ := ch_at hc hf
      have HSF := Lib.hid (HS.out f (List.mem_of_getElem? hf))
      have hw1 : IntKind.i64.wrap ((k : Int) + 1) = (k : Int) + 1 := IntWalk.i64_in _ (by omega)
      clear hc HCK
      by_cases hn : (k : Int) < n
      · obtain ⟨LK, hLK⟩ : ∃ LK, doN l (cs.take k) = LK := ⟨_, rfl⟩
        have HRK : Hid (Ris Nt.nm LK) := by show Ris _ _; rw [← hLK]; exact doN_ris HR.out _
        have HST : Hid (doN l (cs.take (k + 1)) = step1 LK f) := by show _ = _; rw [takeC_snoc hf, doN_snoc, hLK]
        have hlk : LK.length ≤ 101000 := by
          rw [← hLK]
          have h1 := doN_len HR.out (cs.take k)
          rw [List.length_take] at h1
          omega
        rw [hLK] at HMK
        obtain ⟨hs0, hs1, hs2⟩ := HSF.out
        have hni : decide (n ≤ (k : Int)) = false := by simp; omega
        have HM1 : Hid ((wr.alloc (.cells #[.string f.fr, .string f.to, .int .i64 f.id] 103)).ownsMap Try.prog 9 (plainElem (H := Unit) Try.prog 3) b LK.length (dirD LK)) := World.ownsMap.alloc HMK.out _
        have HG1 : Hid (wr.grownBy (wr.alloc (.cells #[.string f.fr, .string f.to, .int .i64 f.id] 103)) (some b)) := (World.grownBy_alloc wr _ none).but _
        have hbl := HM1.out.lt
        have hx1 : (wr.alloc (.cells #[.string f.fr, .string f.to, .int .i64 f.id] 103)).heap[wr.heap.size]? = some (.cells #[.string f.fr, .string f.to, .int .i64 f.id] 103 (0, 0)) := heap_alloc_new wr _
        have hne : wr.heap.size ≠ b := fun e => by
          have h1 := HMK.out.lt
          omega
        have HCH : Hid (∀ W, (wr.alloc (.cells #[.string f.fr, .string f.to, .int .i64 f.id] 103)).grownBy W (some b) → W.cell? ⟨wr.heap.size, 0, none⟩ = some (.string f.fr) ∧ W.cell? ⟨wr.heap.size, 1, none⟩ = some (.string f.to) ∧ W.cell? ⟨wr.heap.size, 2, none⟩ = some (.int .i64 f.id)) := fun W hW => by
          have h := (hW.block wr.heap.size (Array.getElem?_eq_some_iff.1 hx1).1 (fun e => hne (by injection e))).trans hx1
          exact ⟨cell_of_row _ _ _ _ _ _ h, cell_of_row _ _ _ _ _ _ h, cell_of_row _ _ _ _ _ _ h⟩
        obtain ⟨d0, d1, d2⟩ := HCH.out _ (World.grownBy.refl _ _)
        have HCC : Hid (∀ cc : Int, (dirD LK).atKey (kS f.fr) (.lit (.int .i64 0)) = .lit (.int .i64 cc) → cc = idAt LK f.fr) := fun cc h => by
          have h1 := at_idAt HRK.out f.fr
          have h2 : (DataW.lit (.int .i64 cc) : DataW Unit) = vD (idAt LK f.fr) := h.symm.trans h1
          injection h2 with h2
          injection h2
        clear hLK hf hx1 hne hbl
        by_cases e1 : f.fr = f.to
        · have q1 : (f.fr.toList == f.to.toList) = true := by rw [e1]; simp
          have q2 : f.fr.toList = f.to.toList := by rw [e1]
          have HE : Hid (step1 LK f = LK) := by show _ = _; unfold step1; rw [if_pos e1]
          clear e1
          go_wp2
          go_roundg (gk - 1)
          case measure => omega
          case rel => exact ⟨k + 1, by omega, by go_num, .inr (by omega), by rw [HST.out, HE.out]; exact (show MapIn _ _ _ _ from HM1.out).tight, HGW.out.andThen HG1.out (fun j hj => .inr hj)⟩
        · have q1 : (f.fr.toList == f.to.toList) = false := by rw [nmEq_dec]; exact decide_eq_false e1
          have q2 : ¬ f.fr.toList = f.to.toList := fun h => e1 (nm_eq h)
          by_cases e2 : f.fr = noN
          · have q3 : f.fr.toList.isEmpty = true := by rw [emp_dec]; exact decide_eq_true e2
            have q4 : f.fr.toList = [] := by simpa using q3
            have q5 : f.to.toList.isEmpty = false := by rw [emp_dec]; exact decide_eq_false (fun h => e1 (e2.trans h.symm))
            have q6 : ¬ f.to.toList = [] := by simpa using q5
            have HE : Hid (step1 LK f = outK Nt.nm (withK Nt.nm LK ⟨f.to, f.id⟩) f.fr) := by show _ = _; unfold step1 mid1; rw [if_neg e1, if_pos e2]
            clear e1 e2
            go_wp2_with (first
              | (at_mapUpdate; refine wpList_mapUpdate_own _ rfl _ _ _ 66 rfl 9 3 strLaw Try.underlying66 _ b LK.length _ rfl HM1.out (by unfold maxLen; omega) (.string f.to) (.int .i64 f.id) (kS f.to) rfl rfl (hkeyS (by omega)) (vD f.id) [] (plainElem_int Try.underlying3 hs2) ?_; intro w5 hown hgrow; have HM5 := Lib.hid (put_in hown HRK.out); have HG5 := Lib.hid hgrow; clear d0 d1 d2; obtain ⟨d0, d1, d2⟩ := HCH.out w5 hgrow; clear hown hgrow)
              | (at_delete; refine wpList_delete_own _ rfl _ _ 66 9 rfl 3 strLaw Try.underlying66 _ b _ _ rfl HM5.out (.string f.fr) (kS f.fr) rfl (hkeyS (by omega)) ?_; intro w6 hown hturn; have HM6 := Lib.hid (del_in hown (HRK.out.withK _)); have HG6 := Lib.hid (HG5.out.andThen hturn.grown (fun j hj => .inr hj)); clear hown hturn))
            go_roundg (gk - 1)
            case measure => omega
            case rel => exact ⟨k + 1, by omega, by go_num, .inr (by omega), by rw [HST.out, HE.out]; exact HM6.out, (HGW.out.andThen HG1.out (fun j hj => .inr hj)).andThen HG6.out (fun j hj => .inr hj)⟩
          · have q3 : f.fr.toList.isEmpty = false := by rw [emp_dec]; exact decide_eq_false e2
            have q4 : ¬ f.fr.toList = [] := by simpa using q3
            by_cases e3 : f.to = noN
            · have q5 : f.to.toList.isEmpty = true := by rw [emp_dec]; exact decide_eq_true e3
              have q6 : f.to.toList = [] := by simpa using q5
              have HE : Hid (step1 LK f = outK Nt.nm LK f.fr) := by show _ = _; unfold step1 mid1; rw [if_neg e1, if_neg e2, if_pos e3]
              clear e1 e2 e3
              go_wp2_with (at_delete; refine wpList_delete_own _ rfl _ _ 66 9 rfl 3 strLaw Try.underlying66 _ b LK.length _ rfl HM1.out (.string f.fr) (kS f.fr) rfl (hkeyS (by omega)) ?_; intro w6 hown hturn; have HM6 := Lib.hid (del_in hown HRK.out); have HG6 := Lib.hid hturn.grown; clear hown hturn)
              go_roundg (gk - 1)
              case measure => omega
              case rel => exact ⟨k + 1, by omega, by go_num, .inr (by omega), by rw [HST.out, HE.out]; exact HM6.out, (HGW.out.andThen HG1.out (fun j hj => .inr hj)).andThen HG6.out (fun j hj => .inr hj)⟩
            · have q5 : f.to.toList.isEmpty = false := by rw [emp_dec]; exact decide_eq_false e3
              have q6 : ¬ f.to.toList = [] := by simpa using q5
              have HE : Hid (step1 LK f = outK Nt.nm (withK Nt.nm LK ⟨f.to, idAt LK f.fr⟩) f.fr) := by show _ = _; unfold step1 mid1; rw [if_neg e1, if_neg e2, if_neg e3]
              clear e1 e2 e3
              go_wp2_with (first
                | (at_lookup; refine wpList_lookup_own_int _ rfl _ _ 66 rfl 9 3 .i64 strLaw Try.underlying66 Try.underlying3 (zeroI _) b LK.length _ rfl HM1.out (.string f.fr) (kS f.fr) rfl (hkeyS (by omega)) ?_; intro cc hat hwc; obtain rfl := HCC.out cc hat; have HWC := Lib.hid hwc; clear hat hwc)
                | (at_mapUpdate; refine wpList_mapUpdate_own _ rfl _ _ _ 66 rfl 9 3 strLaw Try.underlying66 _ b LK.length _ rfl HM1.out (by unfold maxLen; omega) (.string f.to) (.int .i64 (idAt LK f.fr)) (kS f.to) rfl rfl (hkeyS (by omega)) (vD (idAt LK f.fr)) [] (plainElem_int Try.underlying3 HWC.out) ?_; intro w5 hown hgrow; have HM5 := Lib.hid (put_in hown HRK.out); have HG5 := Lib.hid hgrow; clear d0 d1 d2; obtain ⟨d0, d1, d2⟩ := HCH.out w5 hgrow; clear hown hgrow)
                | (at_delete; refine wpList_delete_own _ rfl _ _ 66 9 rfl 3 strLaw Try.underlying66 _ b _ _ rfl HM5.out (.string f.fr) (kS f.fr) rfl (hkeyS (by omega)) ?_; intro w6 hown hturn; have HM6 := Lib.hid (del_in hown (HRK.out.withK _)); have HG6 := Lib.hid (HG5.out.andThen hturn.grown (fun j hj => .inr hj)); clear hown hturn))
              go_roundg (gk - 1)
              case measure => omega
              case rel => exact ⟨k + 1, by omega, by go_num, .inr (by omega), by rw [HST.out, HE.out]; exact HM6.out, (HGW.out.andThen HG1.out (fun j hj => .inr hj)).andThen HG6.out (fun j hj => .inr hj)⟩
      · have hni : decide (n ≤ (k : Int)) = true := by simp; omega
        have HT : Hid (cs.take n.toNat = cs.take k) := by
          show _ = _
          congr 1
          rcases hkn with rfl | h2 <;> omega
        have HM1 := Lib.hid HMK.out
        clear hf hkn
        go_wp2
        first | refine bodyPost_end (results_none rfl _ _ _) rfl ?_ | (rw [Exit.noGoto_normal]; refine bodyPost_end (results_none rfl _ _ _) rfl ?_) | (rw [Exit.noGoto_ret]; refine bodyPost_ret (results_none rfl _ _ _) rfl ?_)
        refine ⟨rfl, ?_, ?_⟩
        · rw [HT.out]
          exact (show MapIn _ _ _ _ from World.ownsMap.alloc HM1.out _).tight
        · exact HGW.out.andThen ((World.grownBy_alloc wr _ none).but _) (fun j hj => .inr hj)
    · obtain rfl : k = m := by omega
      have HT : Hid (cs.take n.toNat = cs.take k) := by
        show _ = _
        rcases hkn with h0 | h2
        · have : cs = [] := List.eq_nil_of_length_eq_zero (by have := HL.out; omega)
          rw [this]; simp
        · rw [List.take_of_length_le (by have := HL.out; omega), List.take_of_length_le (by have := HL.out; omega)]
      go_wp2
      first | refine bodyPost_end (results_none rfl _ _ _) rfl ?_ | (rw [Exit.noGoto_normal]; refine bodyPost_end (results_none rfl _ _ _) rfl ?_) | (rw [Exit.noGoto_ret]; refine bodyPost_ret (results_none rfl _ _ _) rfl ?_)
      exact ⟨rfl, by rw [HT.out]; exact HMK.out, HGW.out⟩
end Go.Proofs.Ytcfkepahilioaaa
