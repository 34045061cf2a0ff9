/- Layer 5: does a name stand for a number? -/
import Derived.Test.YtbfaefnlhcdnhaaNlN
import Derived.Maps.RangeWalk
namespace Go.Proofs.Ytbfaefnlhcdnhaa
open Go.RowKit Go.Maps

def hasId (l : List Nt) (i : Int) : Bool := l.any fun e => e.id == i
def madeId (ws : List Ch) (i : Int) : Bool := ws.any fun c => decide (c.fr = noN) && c.id == i
theorem keyOf_str_inv {key : Value} {kl : Lit} (h : keyOf Try.prog 9 key = some kl) : ∃ x : ByteArray, key = .string x ∧ kl = kS x := by
  obtain ⟨x, h1, h2, _⟩ := Maps.keyOf_str Try.underlying9 h
  exact ⟨⟨x.toArray⟩, h1, by rw [h2]; unfold kS; simp⟩
set_option maxRecDepth 100000 in
set_option maxHeartbeats 1000000 in
theorem has5_any (A : Option Addr) (l c : Nat) (fs : List Nt) (i : Int) (B : Nat) (w : World) (hl : fs.length = l) (hm : l ≤ 1000000) (hb : Cells w B A (ntCells fs)) :
    Calls Try.prog 34 #[.slice A l c, .int .i64 i] w fun e w' => e = .returned (.bool (hasId fs i)) ∧ w = w' := by
  have HF := Lib.hid hb
  have HL := Lib.hid hl
  clear hb hl
  go_enter Try.func34, Try.ntmps34
  go_wp2
  go_loopg [5] l (fun gk v wr => ∃ k : Nat, k + gk = l ∧ v = .int .i64 (k : Int) ∧ wr = w ∧ hasId (fs.take k) i = false)
  case atStart => exact ⟨0, by omega, rfl, rfl, rfl⟩
  case round =>
    obtain ⟨k, hk, rfl, rfl, hall⟩ := hrel
    have HA := Lib.hid hall
    clear hall
    by_cases h : k < l
    · obtain ⟨x, hx⟩ : ∃ x, fs[k]? = some x := ⟨_, List.getElem?_eq_getElem (by have := HL.out; omega)⟩
      obtain ⟨b, o, rfl, _, hc⟩ := HF.out (by rw [nt_len]; have := HL.out; omega)
      have c0 := (nt_at hc hx).2
      have hki : (k : Int) < (l : Int) := by omega
      have hw1 : IntKind.i64.wrap ((k : Int) + 1) = (k : Int) + 1 := IntWalk.i64_in _ (by omega)
      have HTK := Lib.hid (takeN_snoc hx)
      by_cases hn : x.id = i
      · have HFE : Hid (hasId fs i = true) := by
          show _ = _
          unfold hasId
          exact List.any_eq_true.2 ⟨x, List.mem_of_getElem? hx, by simp [hn]⟩
        clear hc hx
        go_wp2
        go_ret
        exact ⟨by rw [HFE.out]; rfl, rfl⟩
      · have hn2 : (x.id == i) = false := by simpa using hn
        clear hc hx
        go_wp2
        go_roundg (gk - 1)
        case measure => omega
        case rel =>
          refine ⟨k + 1, by omega, by go_num, rfl, ?_⟩
          rw [HTK.out]
          have h1 := HA.out
          unfold hasId at h1 ⊢
          rw [List.any_append, h1]
          simp [hn2]
    · obtain rfl : k = l := by omega
      have HFE : Hid (hasId fs i = false) := by
        have := HA.out
        rw [List.take_of_length_le (by have := HL.out; omega)] at this
        exact this
      go_wp2
      go_ret
      exact ⟨by rw [HFE.out]; rfl, rfl⟩
set_option maxRecDepth 100000 in
set_option maxHeartbeats 1000000 in
theorem rlinked5_any (r : Nat) (G : Nat → Prop) (now : List Nt) (past : List (List Nt)) (i : Int) (w : World) (h : RefS w r G now past) (hp : past.length ≤ 1000) (hs : ∀ p ∈ past, p.length ≤ 1000000) (hnl : now.length ≤ 1000000) :
    Calls Try.prog 21 #[.pointer (some ⟨r, 0, none⟩), .int .i64 i] w fun e w' => e = .returned (.bool (past.any (fun p => hasId p i) || hasId now i)) ∧ w = w' := by
  obtain ⟨An, cn, Ap, cp, pv, hB⟩ := h
  have HB := Lib.hid hB
  obtain ⟨c0, c1, _, _⟩ := hB.cells
  have HN := Lib.hid (has5_any An now.length cn now i w.heap.size w rfl hnl (cells_of_ownD hB.nw))
  obtain ⟨l, hl⟩ : ∃ l, past.length = l := ⟨_, rfl⟩
  have HL := Lib.hid hl
  have HS := Lib.hid hs
  rw [hl] at c1 hp
  clear hB hl hs
  go_enter Try.func21, Try.ntmps21
  go_wp2
  go_loopg [5] l (fun gk v wr => ∃ k : Nat, k + gk = l ∧ v = .int .i64 (k : Int) ∧ wr = w ∧ (past.take k).any (fun p => hasId p i) = false)
  case atStart => exact ⟨0, by omega, rfl, rfl, rfl⟩
  case round =>
    obtain ⟨k, hk, rfl, rfl, hall⟩ := hrel
    have HA := Lib.hid hall
    clear hall
    by_cases h : k < l
    · obtain ⟨p, hpp⟩ : ∃ p, past[k]? = some p := ⟨_, List.getElem?_eq_getElem (by have := HL.out; omega)⟩
      obtain ⟨A, c, h1, h2, _⟩ := HB.out.each k p hpp
      obtain ⟨b, o, rfl, _, hc⟩ := cells_of_ownD HB.out.row (by have := HB.out.row.1; have := HL.out; omega)
      have d0 := hc k _ h1
      have HP := Lib.hid (has5_any A p.length c p i wr.heap.size wr rfl (HS.out p (List.mem_of_getElem? hpp)) (cells_of_ownD h2))
      have hki : (k : Int) < (l : Int) := by omega
      have hw1 : IntKind.i64.wrap ((k : Int) + 1) = (k : Int) + 1 := IntWalk.i64_in _ (by omega)
      have HTK : Hid (past.take (k + 1) = past.take k ++ [p]) := by show _ = _; rw [List.take_add_one, hpp]; rfl
      obtain ⟨q, hq⟩ : ∃ q, hasId p i = q := ⟨_, rfl⟩
      have HQ := Lib.hid hq
      rw [hq] at HP
      have HM := Lib.hid (List.mem_of_getElem? hpp)
      clear hc h1 h2 hpp hq
      cases q with
      | true =>
        have HFE : Hid ((past.any (fun p => hasId p i) || hasId now i) = true) := by
          show _ = _
          rw [show past.any (fun p => hasId p i) = true from List.any_eq_true.2 ⟨p, HM.out, HQ.out⟩]
          rfl
        go_wp2_with (go_at_call 34; refine HP.out.mono ?_; rintro e w' ⟨rfl, hw⟩; subst hw)
        go_ret
        exact ⟨by rw [HFE.out]; rfl, rfl⟩
      | false =>
        go_wp2_with (go_at_call 34; refine HP.out.mono ?_; rintro e w' ⟨rfl, hw⟩; subst hw)
        go_roundg (gk - 1)
        case measure => omega
        case rel =>
          refine ⟨k + 1, by omega, by go_num, rfl, ?_⟩
          rw [HTK.out, List.any_append, HA.out]
          simp [HQ.out]
    · obtain rfl : k = l := by omega
      have HFE : Hid ((past.any (fun p => hasId p i) || hasId now i) = hasId now i) := by
        have := HA.out
        rw [List.take_of_length_le (by have := HL.out; omega)] at this
        show _ = _
        rw [this]
        rfl
      go_wp2_with (go_at_call 34; refine HN.out.mono ?_; rintro e w' ⟨rfl, hw⟩; subst hw)
      go_ret
      exact ⟨by rw [HFE.out]; rfl, rfl⟩
set_option maxRecDepth 100000 in
set_option maxHeartbeats 2000000 in
theorem linked5_any (d : Nat) (F : Nat → Prop) (now safe : List Nt) (ws : List Ch) (i : Int) (w : World) (h : DirS w d F now safe ws) (hr : Ris Nt.nm safe) (hwl : ws.length ≤ 1000) :
    Calls Try.prog 16 #[.pointer (some ⟨d, 0, none⟩), .int .i64 i] w fun e w' => e = .returned (.bool (hasId safe i || madeId ws i)) ∧ Below w.heap.size w w' := by
  obtain ⟨bn, bs, Aw, cw, hD⟩ := h
  obtain ⟨c0, c1, c2, _, _, _⟩ := hD.cells
  have hdl := hD.lt d hD.fd
  have HCW := Lib.hid (cells_of_ownD hD.row)
  have HC2 : Hid (∀ W, Below w.heap.size w W → W.cell? ⟨d, 2, none⟩ = some (.slice Aw ws.length cw)) := fun W hW => (hW.cell (p := ⟨d, 2, none⟩) hdl).trans hD.cells.2.2.1
  obtain ⟨l, hl⟩ : ∃ l, ws.length = l := ⟨_, rfl⟩
  have HL := Lib.hid hl
  rw [hl] at c2 HC2 hwl
  rcases hD.safe with ⟨rfl, rfl⟩ | ⟨b, rfl, hm⟩
  · have HNS : Hid (hasId [] i = false) := rfl
    have HBV : Hid (Below w.heap.size w (w.alloc (.mapIter none 0 #[] 0))) := (Below.refl _ w).alloc (Nat.le_refl _) _
    have hrg := run_range_nilMap (P := Try.prog) w 25 _ _ Try.underlying25
    have hnx : ∀ ty, (Instr.next (.pointer (some ⟨w.heap.size, 0, none⟩)) false ty).run Try.prog (w.alloc (.mapIter none 0 #[] 0)) = _ := fun ty => run_next_nilMap _ ty 0 0 #[]
    clear hD hl hdl
    go_enter Try.func16, Try.ntmps16
    go_wp2
    have c2v := HC2.out _ HBV.out
    refine wp_loop_rounds 1 ?_
    rw [rounds_succ]
    go_wp2
    clear hrg hnx
    go_loopg [8, 28] l (fun gk _ v wr => ∃ k : Nat, k + gk = l ∧ v = .int .i64 (k : Int) ∧ madeId (ws.take k) i = false ∧ Below w.heap.size w wr)
    case atStart => exact ⟨0, by omega, rfl, rfl, HBV.out⟩
    case round =>
      obtain ⟨k, hk, rfl, hall, hbl⟩ := hrel
      have HA := Lib.hid hall
      have HBL := Lib.hid hbl
      clear hall hbl
      by_cases h : k < l
      · obtain ⟨f, hf⟩ : ∃ f, ws[k]? = some f := ⟨_, List.getElem?_eq_getElem (by have := HL.out; omega)⟩
        obtain ⟨b', o, rfl, hbB, hc⟩ := HCW.out (by rw [ch_len]; have := HL.out; omega)
        obtain ⟨d0, d1, d2⟩ := ch_at (fun j u hj => (HBL.out.cell (p := ⟨b', o + j, none⟩) hbB).trans (hc j u hj)) hf
        have HTK := Lib.hid (takeC_snoc hf)
        have hki : (k : Int) < (l : Int) := by omega
        have hw1 : IntKind.i64.wrap ((k : Int) + 1) = (k : Int) + 1 := IntWalk.i64_in _ (by omega)
        have HM := Lib.hid (List.mem_of_getElem? hf)
        have HBA : Hid (∀ o, Below w.heap.size w (wr.alloc o)) := fun o => HBL.out.alloc HBL.out.size o
        clear hc hf
        by_cases e2 : f.fr = noN
        · have q3 : f.fr.toList.isEmpty = true := by rw [emp_dec]; exact decide_eq_true e2
          have q4 : f.fr.toList = [] := by simpa using q3
          by_cases hn : f.id = i
          · have HFE : Hid ((hasId [] i || madeId ws i) = true) := by
              show _ = _
              have : madeId ws i = true := List.any_eq_true.2 ⟨f, HM.out, by simp [e2, hn]⟩
              rw [this]
              simp
            clear e2
            go_wp2
            go_ret
            exact ⟨by rw [HFE.out]; rfl, HBA.out _⟩
          · have hn2 : (f.id == i) = false := by simpa using hn
            have HMA : Hid (madeId (ws.take (k + 1)) i = false) := by
              show _ = _
              have h1 := HA.out
              rw [HTK.out]
              unfold madeId at h1 ⊢
              rw [List.any_append, h1]
              simp [hn2]
            clear e2
            go_wp2
            go_roundg (gk - 1)
            case measure => omega
            case rel => exact ⟨k + 1, by omega, by go_num, HMA.out, HBA.out _⟩
        · have q3 : f.fr.toList.isEmpty = false := by rw [emp_dec]; exact decide_eq_false e2
          have q4 : ¬ f.fr.toList = [] := by simpa using q3
          have HMA : Hid (madeId (ws.take (k + 1)) i = false) := by
            show _ = _
            have h1 := HA.out
            rw [HTK.out]
            unfold madeId at h1 ⊢
            rw [List.any_append, h1]
            simp [e2]
          clear e2
          go_wp2
          go_roundg (gk - 1)
          case measure => omega
          case rel => exact ⟨k + 1, by omega, by go_num, HMA.out, HBA.out _⟩
      · obtain rfl : k = l := by omega
        have HFE : Hid ((hasId [] i || madeId ws i) = false) := by
          have := HA.out
          rw [List.take_of_length_le (by have := HL.out; omega)] at this
          show _ = _
          rw [HNS.out, this]
          rfl
        go_wp2
        go_ret
        exact ⟨by rw [HFE.out]; rfl, HBL.out⟩
  · have HM := Lib.hid hm
    have HR := Lib.hid hr
    clear hD hl hdl hm hr
    go_enter Try.func16, Try.ntmps16
    go_wp2_with (at_range; refine wpList_range_own _ rfl _ 25 rfl 9 3 strLaw Try.underlying25 (plainElem (H := Unit) Try.prog 3) b safe.length (dirD safe) rfl HM.out ?_; intro w0 hrg0 hg0 hs0; have HRG0 := Lib.hid hrg0; have HG0 := Lib.hid hg0; clear hrg0 hg0 hs0)
    go_frame
    go_loopw [6] (fun _ wr => ∃ (left : Lit → Bool) (cnt : Nat), wr.ranges Try.prog 9 (plainElem (H := Unit) Try.prog 3) b w.heap.size safe.length (dirD safe) left cnt ∧ (∀ e ∈ safe, left (kS e.nm) = false → e.id ≠ i) ∧ Below w.heap.size w wr)
      (fun _ wr => wr.rangeLeft b w.heap.size)
    case atStart => exact ⟨_, _, HRG0.out, (fun e he hh => by rw [has_dirDs] at hh; rw [hasK_iff.2 ⟨e, he, rfl⟩] at hh; cases hh), (Below.refl _ w).grown HG0.out (Nat.le_refl _) (fun j hj => by cases hj)⟩
    case round =>
      obtain ⟨left, cnt, hrg, hseen, hbel⟩ := hrel
      have HRG := Lib.hid hrg
      have HSE := Lib.hid hseen
      have HBL := Lib.hid hbel
      clear hrg hseen hbel
      go_wp2_with (at_next; refine wpList_next_ranges _ rfl _ rfl 9 strLaw (plainElem (H := Unit) Try.prog 3) Value.string (Value.int .i64) (fun key kl hk => by obtain ⟨x, hx, _⟩ := keyOf_str_inv hk; exact ⟨x, hx⟩) (fun v y hv => by obtain ⟨c, hc, _⟩ := plainElem_int_inv Try.underlying3 hv; exact ⟨c, hc⟩) b w.heap.size safe.length (dirD safe) left cnt rfl HRG.out ?_ ?_)
      · intro hc0 hl0
        have HNS : Hid (hasId safe i = false) := by
          show _ = _
          unfold hasId
          rw [List.any_eq_false]
          intro e he
          have := HSE.out e he (hl0 _)
          simpa using this
        have HBV := HBL
        clear hc0 hl0
        clear c0 c1 c2
        have c2 := HC2.out _ HBV.out
        go_wp2
        go_loopg [8, 28] l (fun gk _ v wr => ∃ k : Nat, k + gk = l ∧ v = .int .i64 (k : Int) ∧ madeId (ws.take k) i = false ∧ Below w.heap.size w wr)
        case atStart => exact ⟨0, by omega, rfl, rfl, HBV.out⟩
        case round =>
          obtain ⟨k, hk, rfl, hall, hbl⟩ := hrel
          have HA := Lib.hid hall
          have HBL := Lib.hid hbl
          clear hall hbl
          by_cases h : k < l
          · obtain ⟨f, hf⟩ : ∃ f, ws[k]? = some f := ⟨_, List.getElem?_eq_getElem (by have := HL.out; omega)⟩
            obtain ⟨b', o, rfl, hbB, hc⟩ := HCW.out (by rw [ch_len]; have := HL.out; omega)
            obtain ⟨d0, d1, d2⟩ := ch_at (fun j u hj => (HBL.out.cell (p := ⟨b', o + j, none⟩) hbB).trans (hc j u hj)) hf
            have HTK := Lib.hid (takeC_snoc hf)
            have hki : (k : Int) < (l : Int) := by omega
            have hw1 : IntKind.i64.wrap ((k : Int) + 1) = (k : Int) + 1 := IntWalk.i64_in _ (by omega)
            have HM := Lib.hid (List.mem_of_getElem? hf)
            have HBA : Hid (∀ o, Below w.heap.size w (wr.alloc o)) := fun o => HBL.out.alloc HBL.out.size o
            clear hc hf
            by_cases e2 : f.fr = noN
            · have q3 : f.fr.toList.isEmpty = true := by rw [emp_dec]; exact decide_eq_true e2
              have q4 : f.fr.toList = [] := by simpa using q3
              by_cases hn : f.id = i
              · have HFE : Hid ((hasId safe i || madeId ws i) = true) := by
                  show _ = _
                  have : madeId ws i = true := List.any_eq_true.2 ⟨f, HM.out, by simp [e2, hn]⟩
                  rw [this]
                  simp
                clear e2
                go_wp2
                go_ret
                exact ⟨by rw [HFE.out]; rfl, HBA.out _⟩
              · have hn2 : (f.id == i) = false := by simpa using hn
                have HMA : Hid (madeId (ws.take (k + 1)) i = false) := by
                  show _ = _
                  have h1 := HA.out
                  rw [HTK.out]
                  unfold madeId at h1 ⊢
                  rw [List.any_append, h1]
                  simp [hn2]
                clear e2
                go_wp2
                go_roundg (gk - 1)
                case measure => omega
                case rel => exact ⟨k + 1, by omega, by go_num, HMA.out, HBA.out _⟩
            · have q3 : f.fr.toList.isEmpty = false := by rw [emp_dec]; exact decide_eq_false e2
              have q4 : ¬ f.fr.toList = [] := by simpa using q3
              have HMA : Hid (madeId (ws.take (k + 1)) i = false) := by
                show _ = _
                have h1 := HA.out
                rw [HTK.out]
                unfold madeId at h1 ⊢
                rw [List.any_append, h1]
                simp [e2]
              clear e2
              go_wp2
              go_roundg (gk - 1)
              case measure => omega
              case rel => exact ⟨k + 1, by omega, by go_num, HMA.out, HBA.out _⟩
          · obtain rfl : k = l := by omega
            have HFE : Hid ((hasId safe i || madeId ws i) = false) := by
              have := HA.out
              rw [List.take_of_length_le (by have := HL.out; omega)] at this
              show _ = _
              rw [HNS.out, this]
              rfl
            go_wp2
            go_ret
            exact ⟨by rw [HFE.out]; rfl, HBL.out⟩
      · intro x c kl yd yp w1 cnt1 hkey hlx hv hat hrg1 hlt hg1 hs1 hen
        obtain ⟨x', hx', hkl⟩ := keyOf_str_inv hkey
        injection hx' with hx'
        subst hx' hkl
        obtain ⟨c', hc', hy, _⟩ := plainElem_int_inv Try.underlying3 hv
        injection hc' with _ hc'
        obtain ⟨hy, _⟩ := Prod.mk.inj hy
        subst hc' hy
        have hhas := has_true_of_atKey hat
        obtain ⟨e0, he0, hke⟩ := has_dirD.1 hhas
        have hid : e0.id = c := by
          have h1 := hat (vD 0)
          rw [← hke, at_dirD HR.out he0] at h1
          injection h1 with h1
          injection h1
        have HEX : Hid (e0 ∈ safe ∧ kS e0.nm = kS x ∧ e0.id = c) := ⟨he0, hke, hid⟩
        have HB1 := Lib.hid (HBL.out.grown hg1 HBL.out.size (fun j hj => by injection hj with hj; omega))
        have HRG1 := Lib.hid hrg1
        have hlt2 := hlt
        have HEQ := Lib.hid (HRG.out.left_eq)
        clear hhas he0 hke hid hat hv hkey hrg1 hg1 hs1 hlx
        by_cases hn : c = i
        · have HFE : Hid ((hasId safe i || madeId ws i) = true) := by
            show _ = _
            have : hasId safe i = true := List.any_eq_true.2 ⟨e0, HEX.out.1, by simp [HEX.out.2.2, hn]⟩
            rw [this]
            rfl
          go_wp2
          go_ret
          exact ⟨by rw [HFE.out]; rfl, HB1.out⟩
        · go_wp2
          go_roundw
          case rel =>
            refine ⟨_, cnt1, HRG1.out, fun e he hh => ?_, HB1.out⟩
            by_cases hx : left (kS e.nm) = true
            · rw [hx] at hh
              have hsame : (kS e.nm).sameKey (kS x) = true := by simpa using hh
              have hk2 := (WideAt.sameKey_iff (kS_key x)).1 hsame
              have : e = e0 := mem_ris_eq HR.out he HEX.out.1 (kS_inj (hk2.trans HEX.out.2.1.symm))
              rw [this, HEX.out.2.2]
              exact hn
            · exact HSE.out e he (by simpa using hx)
          case measure => rw [HRG1.out.left_eq, HEQ.out]; exact hlt2
end Go.Proofs.Ytbfaefnlhcdnhaa
