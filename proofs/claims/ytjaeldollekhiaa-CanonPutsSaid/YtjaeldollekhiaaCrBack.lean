/- Layer 8: what is put is taken: the law. -/
import Derived.Test.YtjaeldollekhiaaCrTake
import Derived.Test.YtjaeldollekhiaaCrPut
import Derived.Test.YtjaeldollekhiaaBitsCut
namespace Go.Proofs.Ytjaeldollekhiaa
open Go.RowKit BitsP

/-- The bits of symbols, one behind the other. -/
def flatS (zs ss : List Int) : List Bool := (ss.map (symB zs)).flatten
theorem flatS_append (zs a b : List Int) : flatS zs (a ++ b) = flatS zs a ++ flatS zs b := by simp [flatS]
theorem flatS_one (zs : List Int) (s : Int) : flatS zs [s] = symB zs s := by simp [flatS]
theorem symB_no {zs : List Int} {s : Int} (h : hasB zs s = false) : symB zs s = [] := by
  unfold symB
  unfold hasB at h
  exact if_neg (of_decide_eq_false h)
theorem flatS_filter (zs : List Int) : ∀ ss, flatS zs (ss.filter (hasB zs)) = flatS zs ss
  | [] => rfl
  | s :: l => by
    have ih := flatS_filter zs l
    have e : flatS zs (s :: l) = symB zs s ++ flatS zs l := by rw [← flatS_one, ← flatS_append]; rfl
    rw [e, List.filter_cons]
    cases h : hasB zs s with
    | false => rw [if_neg (by decide), ih, symB_no h]; rfl
    | true =>
      rw [if_pos rfl]
      have e2 : flatS zs (s :: l.filter (hasB zs)) = symB zs s ++ flatS zs (l.filter (hasB zs)) := by rw [← flatS_one, ← flatS_append]; rfl
      rw [e2, ih]
theorem symB_len {zs : List Int} (hr : caR zs = true) (s : Int) : (symB zs s).length ≤ 15 := by
  rcases lenAt_cases hr s with ⟨_, _, e⟩ | ⟨t, n, v, k, _, hy, _, _, e, _⟩
  · rw [e]; simp
  · rw [e, codeB_len]; exact hy.few
theorem flatS_len {zs : List Int} (hr : caR zs = true) : ∀ ss, (flatS zs ss).length ≤ 15 * ss.length
  | [] => by simp [flatS]
  | s :: l => by
    have ih := flatS_len hr l
    have h := symB_len hr s
    have e : flatS zs (s :: l) = symB zs s ++ flatS zs l := by rw [← flatS_one, ← flatS_append]; rfl
    rw [e, List.length_append, List.length_cons]
    omega
theorem flatS_up {zs ss : List Int} {k : Nat} {s : Int} (h : ss[k]? = some s) : flatS zs (ss.take (k + 1)) = flatS zs (ss.take k) ++ symB zs s := by
  rw [take_snoc' h, flatS_append, flatS_one]
theorem flatS_at {zs ss : List Int} {k : Nat} {s : Int} (h : ss[k]? = some s) : (flatS zs ss).drop (flatS zs (ss.take k)).length = symB zs s ++ flatS zs (ss.drop (k + 1)) := by
  have e : flatS zs ss = flatS zs (ss.take (k + 1)) ++ flatS zs (ss.drop (k + 1)) := by rw [← flatS_append, List.take_append_drop]
  rw [e, flatS_up h, List.append_assoc, List.drop_left]
theorem filt_up {zs ss : List Int} {k : Nat} {s : Int} (h : ss[k]? = some s) : (ss.take (k + 1)).filter (hasB zs) = (ss.take k).filter (hasB zs) ++ (if hasB zs s = true then [s] else []) := by
  rw [take_snoc' h, List.filter_append, List.filter_cons, List.filter_nil]
/-- What stands where the symbols ahead end. -/
theorem next_sym {zs ps : List Int} {j : Nat} {s : Int} (h : ps[j]? = some s) (hr : caR zs = true) (hh : hasB zs s = true) {P : List UInt8} (hP : pack (flatS zs ps) = P) :
    ∃ (t n v k : Nat) (R : List Bool), s = (t : Int) ∧ Sym zs t n v k ∧ (unpack P).drop (flatS zs (ps.take j)).length = codeB v n ++ R ∧ (flatS zs (ps.take (j + 1))).length = (flatS zs (ps.take j)).length + n := by
  rcases lenAt_cases hr s with ⟨_, e, _⟩ | ⟨t, n, v, k, rfl, hy, _, _, e, _⟩
  · rw [hh] at e; exact absurd e (by decide)
  · have hle : (flatS zs (ps.take j)).length ≤ (flatS zs ps).length := by
      have e : flatS zs ps = flatS zs (ps.take j) ++ flatS zs (ps.drop j) := by rw [← flatS_append, List.take_append_drop]
      rw [e, List.length_append]; omega
    refine ⟨t, n, v, k, flatS zs (ps.drop (j + 1)) ++ zeros (lack (flatS zs ps).length), rfl, hy, ?_, ?_⟩
    · rw [← hP, pack_unpack, List.drop_append_of_le_length hle, flatS_at h, e, List.append_assoc]
    · rw [flatS_up h, List.length_append, e, codeB_len]
/-- A writer holds bits, a row holds numbers, in blocks of their own. -/
structure BothI (w : World) (q : Nat) (S : Nat → Prop) (v : Value) (L : List Bool) (ns : List Int) : Prop where
  wr : WrS w q q S L
  row : w.ownsRow q 3 1 v ns.length (ns.map ic)
  apart : ∀ k, S k → ¬ ownS v k
  from_ : ∀ k, S k → q ≤ k
section
variable {w w1 : World} {q : Nat} {S S1 : Nat → Prop} {v v1 : Value} {L L1 : List Bool} {ns ns1 : List Int}
theorem BothI.put (h : BothI w q S v L ns) (hq : q ≤ w.heap.size) (hw : WrS w1 q q S1 L1) (hm : Mod S w w1) (hs : ∀ k, S1 k → S k ∨ w.heap.size ≤ k) : BothI w1 q S1 v L1 ns :=
  ⟨hw, own_keep h.row hm (fun k hk hS => h.apart k hS hk), fun k hk hv => by
    rcases hs k hk with h1 | h1
    · exact h.apart k h1 hv
    · have := own_lt h.row k hv
      omega, fun k hk => by
    rcases hs k hk with h1 | h1
    · exact h.from_ k h1
    · omega⟩
theorem BothI.grow (h : BothI w q S v L ns) (ha : App w q 3 1 v ns1.length (ns1.map ic) w1 v1) : BothI w1 q S v1 L ns1 :=
  ⟨h.wr.keep (Mod.of_app ha) (fun k hk hv => h.apart k hk hv), ha.own, fun k hk hv => by
    rcases ha.place k hv with h1 | h1
    · exact h.apart k hk h1
    · have := h.wr.lt k hk
      omega, h.from_⟩
theorem BothI.drewN (h : BothI w q S v L ns) (n : Nat) : BothI (w.drewN n) q S v L ns := ⟨h.wr, h.row, h.apart, h.from_⟩
end
set_option maxRecDepth 100000 in
set_option maxHeartbeats 1000000 in
theorem canback_any (A A2 : Option Addr) (l c l2 c2 : Nat) (zs ss : List Int) (w : World) (hl : zs.length = l) (hm : l ≤ 9223372036854775807) (hl2 : ss.length = l2) (hb : Cells w w.heap.size A (zs.map ic)) (hb2 : Cells w w.heap.size A2 (ss.map ic)) :
    Calls Try.prog 5 #[.slice A l c, .slice A2 l2 c2] w fun e w' => e = .returned (.bool true) ∧ Below w.heap.size w w' := by
  have HLV := Lib.hid lives8_any
  cases hr : caR zs with
  | false =>
    have HN := Lib.hid (new_no A l c zs _ w hl hm hb hr)
    clear hr hb hl hb2 hl2
    go_enter Try.func5, Try.ntmps5
    go_wp2_with (first | (go_at_call 10; refine HN.out.mono ?_; rintro e w' ⟨rfl, rfl⟩) | (go_at_call 7; refine (HLV.out _).mono ?_; rintro e w4 ⟨rfl, hb4⟩; have HB4 := Lib.hid hb4; clear hb4))
    go_ret
    exact ⟨rfl, HB4.out⟩
  | true =>
    have h320 := (caR_len hr).1
    have HN := Lib.hid (new_any A l c zs _ w hl (by omega) hb (Nat.le_refl _) hr)
    have hd : decide ((400 : Int) < (l : Int)) = false := by simp; omega
    by_cases h60 : 60 < l2
    · clear hr hb hl hb2 hl2 h320
      go_enter Try.func5, Try.ntmps5
      go_wp2_with (first | (go_at_call 10; refine HN.out.mono ?_; rintro e w1 ⟨g, rfl, -, -, hb1⟩; have HB1 := Lib.hid hb1; clear hb1) | (go_at_call 7; refine (HLV.out _).mono ?_; rintro e w4 ⟨rfl, hb4⟩; have HB4 := Lib.hid hb4; clear hb4))
      go_ret
      exact ⟨rfl, HB1.out.trans (HB4.out.mono HB1.out.size)⟩
    · have HR := Lib.hid hr
      have HL2 := Lib.hid hl2
      have HSS : Hid (Cells w w.heap.size A2 (ss.map ic)) := hb2
      have HFL : Hid (∀ k, (flatS zs (ss.take k)).length ≤ 900) := fun k => by
        have := flatS_len hr (ss.take k)
        rw [List.length_take] at this
        show _ ≤ _
        omega
      clear hr hb hl hb2 hl2 h320
      go_enter Try.func5, Try.ntmps5
      go_wp2_with (go_at_call 10; refine HN.out.mono ?_; rintro e w1 ⟨g, rfl, hlc, hg, hb1⟩; have HB1 := Lib.hid hb1; have HLC := Lib.hid hlc; have HG := Lib.hid hg; clear hb1 hlc hg)
      have HGL : Hid (g < w1.heap.size) := by
        obtain ⟨_, _, _, _, _, _, _, h, _⟩ := HLC.out
        exact cb_lt h
      have HW0 := Lib.hid (WrS.zero (w := w1.alloc (.cells zeroWr 39)) w1.heap.size (heap_alloc_new w1 _))
      have HBEL0 := Lib.hid (HB1.out.alloc HB1.out.size (.cells zeroWr 39))
      have HLC0 := Lib.hid (HLC.out.below ((Below.refl w1.heap.size w1).alloc (Nat.le_refl _) (.cells zeroWr 39)))
      have HSZ := HB1.out.size
      go_loopg [8, 9] l2 (fun gk v i wr => ∃ (k : Nat) (S : Nat → Prop), k + gk = l2 ∧ i = .int .i64 k ∧ BothI wr w1.heap.size S v (flatS zs (ss.take k)) ((ss.take k).filter (hasB zs)) ∧ Below w.heap.size w wr ∧ LC wr g zs ∧ w1.heap.size ≤ wr.heap.size)
      case atStart => exact ⟨0, oneB w1.heap.size, by omega, rfl, ⟨HW0.out, World.ownsRow_nil _ _ _ _, fun k _ => ownS_nil k, fun k hk => by cases hk; exact Nat.le_refl _⟩, HBEL0.out, HLC0.out, by simp⟩
      case round =>
        obtain ⟨k, S, hk, rfl, hbo, hbe, hlc, hsz⟩ := hrel
        have HBO := Lib.hid hbo
        have HBE := Lib.hid hbe
        have HLC2 := Lib.hid hlc
        clear hbo hbe hlc HW0 HBEL0 HLC0
        obtain ⟨Ap, cp, rfl⟩ := own_form HBO.out.row
        have hfl := HFL.out k
        have hpl : ((ss.take k).filter (hasB zs)).length ≤ 60 := Nat.le_trans (List.length_filter_le _ _) (by rw [List.length_take, HL2.out]; omega)
        by_cases hkl : k < l2
        · obtain ⟨s, hs⟩ : ∃ s, ss[k]? = some s := ⟨_, List.getElem?_eq_getElem (by rw [HL2.out]; exact hkl)⟩
          obtain ⟨b, o, rfl, hbB, hc⟩ := HSS.out (by rw [List.length_map, HL2.out]; omega)
          have HCEL : Hid (∀ W, Below w.heap.size w W → W.cell? ⟨b, o + k, none⟩ = some (.int .i64 s)) := fun W hW => (hW.cell (p := ⟨b, o + k, none⟩) hbB).trans (hc k _ (by rw [List.getElem?_map, hs]; rfl))
          have HFU := Lib.hid (flatS_up (zs := zs) hs)
          have HFI := Lib.hid (filt_up (zs := zs) hs)
          have HP := Lib.hid (put8_any g w1.heap.size w1.heap.size zs S (flatS zs (ss.take k)) s wr HR.out HLC2.out HBO.out.wr (by omega) hsz)
          have c0 := HCEL.out wr HBE.out
          clear hs hc hbB
          cases hh : hasB zs s with
          | false =>
            rw [hh] at HFI HP
            have e1 := HFI.out
            rw [if_neg (by decide), List.append_nil] at e1
            clear hh
            go_wp2_with (go_at_call 16; refine HP.out.mono ?_; rintro e w3 ⟨rfl, S3, hw3, hm3, hs3⟩; rw [← HFU.out] at hw3; have HBO3 := Lib.hid (HBO.out.put hsz hw3 hm3 hs3); have HBE3 := Lib.hid (hm3.below HBE.out HBE.out.size (fun j hj => Nat.le_trans HSZ (HBO.out.from_ j hj))); have HLC3 := Lib.hid (HLC2.out.mod hm3 (fun j hj => Nat.lt_of_lt_of_le HGL.out (HBO.out.from_ j hj))); have hs3 := hm3.size; clear hw3 hm3)
            go_roundg (gk - 1)
            case measure => omega
            case rel => exact ⟨k + 1, S3, by omega, by go_num, by rw [e1]; exact HBO3.out, HBE3.out, HLC3.out, by omega⟩
          | true =>
            rw [hh] at HFI HP
            have e1 := HFI.out
            rw [if_pos rfl] at e1
            have HE1 := Lib.hid e1
            clear hh e1
            go_wp2_with (first
              | (go_at_call 16; refine HP.out.mono ?_; rintro e w3 ⟨rfl, S3, hw3, hm3, hs3⟩; rw [← HFU.out] at hw3; have HBO3 := Lib.hid (HBO.out.put hsz hw3 hm3 hs3); have HBE3 := Lib.hid (hm3.below HBE.out HBE.out.size (fun j hj => Nat.le_trans HSZ (HBO.out.from_ j hj))); have HLC3 := Lib.hid (HLC2.out.mod hm3 (fun j hj => Nat.lt_of_lt_of_le HGL.out (HBO.out.from_ j hj))); have hs3 := hm3.size; have c3 := HCEL.out w3 HBE3.out; clear hw3 hm3)
              | (at_builtin; refine wpList_app1 _ intElem rfl (.tmp 44) (.tmp 49) rfl w1.heap.size (.slice Ap ((ss.take k).filter (hasB zs)).length cp) ((ss.take k).filter (hasB zs)).length _ rfl HBO3.out.row _ rfl rfl (by simp [Value.oneCell']) (by unfold maxLen; omega) (by omega) (by omega) ?_; intro A5 c5 w5 hA; have HA := Lib.hid hA; clear hA))
            have happ : App w3 w1.heap.size 3 1 (.slice Ap ((ss.take k).filter (hasB zs)).length cp) ((ss.take (k + 1)).filter (hasB zs)).length (((ss.take (k + 1)).filter (hasB zs)).map ic) w5 (.slice A5 (((ss.take k).filter (hasB zs)).length + 1) c5) := by
              rw [HE1.out, List.length_append, List.map_append]
              exact HA.out
            go_roundg (gk - 1)
            case measure => omega
            case rel => exact ⟨k + 1, S3, by omega, by go_num, HBO3.out.grow happ, happ.below HBE3.out HBE3.out.size (fun j hj => Nat.le_trans HSZ (own_base HBO3.out.row j hj)), HLC3.out.mod (Mod.of_app happ) (fun j hj => Nat.lt_of_lt_of_le HGL.out (own_base HBO3.out.row j hj)), Nat.le_trans (by omega) (Mod.of_app happ).size⟩
        · obtain rfl : k = l2 := by omega
          have htk : ss.take k = ss := List.take_of_length_le (by rw [HL2.out]; omega)
          rw [htk] at HBO hfl hpl ⊢
          have HFF : Hid (flatS zs (ss.filter (hasB zs)) = flatS zs ss) := flatS_filter zs ss
          have HALL : Hid (∀ x ∈ ss.filter (hasB zs), hasB zs x = true) := fun x hx => (List.mem_filter.1 hx).2
          have HPC := Lib.hid (Cells.of_own HBO.out.row)
          have HPS := Lib.hid (pack_size (flatS zs ss))
          have hlk : lack (flatS zs ss).length < 8 := Nat.mod_lt _ (by omega)
          have HBY := Lib.hid (wbytes_any w1.heap.size w1.heap.size S _ wr HBO.out.wr (by omega))
          obtain ⟨P, hP⟩ : ∃ P, pack (flatS zs ss) = P := ⟨_, rfl⟩
          have HPP := Lib.hid hP
          rw [hP] at HBY HPS
          have hpl2 : P.length ≤ 200 := by have := HPS.out; omega
          obtain ⟨ps, hps⟩ : ∃ ps, ss.filter (hasB zs) = ps := ⟨_, rfl⟩
          rw [hps] at HPC hpl HALL HFF ⊢
          have HRN : Hid (∀ (w6 : World) A6 c6, OwnB w6 wr.heap.size 5 (.slice A6 P.length c6) P.length P → _) := fun w6 A6 c6 ho => rnew_any A6 P.length c6 w6.heap.size P w6 rfl (by omega) (Nat.le_refl _) (Cells.of_own ho)
          have HWS := Lib.hid hsz
          clear hP hps htk hsz HBO HFL HGL
          go_wp2_with (first
            | (go_at_call 19; refine HBY.out.mono ?_; rintro e w6 ⟨A6, c6, rfl, hown6, hb6⟩; have HOW6 := Lib.hid hown6; have HB6 := Lib.hid hb6; clear hown6 hb6)
            | (go_at_call 21; refine (HRN.out _ _ _ HOW6.out).mono ?_; rintro e w7 ⟨rg, S7, rfl, hrd7, hb7, hs7⟩; have HRD7 := Lib.hid hrd7; have HB7 := Lib.hid (HB6.out.trans (hb7.mono HB6.out.size)); have HS7 := Lib.hid hs7; clear hrd7 hb7 hs7))
          have HRG : Hid (wr.heap.size ≤ rg) := by
            obtain ⟨_, _, _, _, rfl, _⟩ := HRD7.out
            have := HS7.out rg (.inl rfl)
            have := HB6.out.size
            show _ ≤ _
            omega
          obtain ⟨B6, hB6⟩ : ∃ B6, w6.heap.size = B6 := ⟨_, rfl⟩
          rw [hB6] at HRD7
          clear HS7 HOW6 hB6 HRN HBY
          obtain ⟨WE, hWE⟩ : ∃ WE, WE = wr := ⟨_, rfl⟩
          subst hWE
          go_loopg [11] ps.length (fun gk i wr => ∃ j : Nat, j + gk = ps.length ∧ i = .int .i64 j ∧ RdS wr rg B6 S7 P (flatS zs (ps.take j)).length ∧ Below WE.heap.size WE wr)
          case atStart => exact ⟨0, by omega, rfl, HRD7.out, HB7.out⟩
          case round =>
            obtain ⟨j, hj, rfl, hrd, hbw⟩ := hrel
            have HRD := Lib.hid hrd
            have HBW := Lib.hid hbw
            clear hrd hbw HRD7 HB7
            by_cases hjl : j < ps.length
            · obtain ⟨s, hs⟩ : ∃ s, ps[j]? = some s := ⟨_, List.getElem?_eq_getElem hjl⟩
              have HTK : Hid (Calls Try.prog 22 #[.pointer (some ⟨g, 0, none⟩), .pointer (some ⟨rg, 0, none⟩)] wr
                  fun e w' => e = .returned (.tuple #[.int .i64 s, .int .i64 0]) ∧ RdS w' rg B6 S7 P (flatS zs (ps.take (j + 1))).length ∧ Mod (oneB rg) wr w') := by
                refine (take8_any g rg B6 zs S7 P _ wr HR.out (HLC2.out.below HBW.out) HRD.out (by omega)).mono ?_
                rintro e w' ⟨m, on, s', er, rfl, hmx, htr, hrd, hm⟩
                obtain ⟨t, n, v, k', R, rfl, hy, hU, hlen⟩ := next_sym hs HR.out (HALL.out s (List.mem_of_getElem? hs)) (P := P) (by rw [HFF.out]; exact HPP.out)
                obtain ⟨rfl, rfl, rfl⟩ := take_back hmx HR.out hy hU htr
                exact ⟨rfl, by rw [hlen]; exact hrd, hm⟩
              obtain ⟨b, o, rfl, hbB, hc⟩ := HPC.out (by rw [List.length_map]; omega)
              have HCEL : Hid (∀ W, Below WE.heap.size WE W → W.cell? ⟨b, o + j, none⟩ = some (.int .i64 s)) := fun W hW => (hW.cell (p := ⟨b, o + j, none⟩) hbB).trans (hc j _ (by rw [List.getElem?_map, hs]; rfl))
              have hss : (s != s) = false := by simp
              clear hs hc hbB
              go_wp2_with (go_at_call 22; refine HTK.out.mono ?_; rintro e w8 ⟨rfl, hrd8, hm8⟩; have HRD8 := Lib.hid hrd8; have HB8 := Lib.hid (hm8.below HBW.out HBW.out.size (fun q hq => by cases hq; exact HRG.out)); have c8 := HCEL.out w8 HB8.out; clear hrd8 hm8)
              go_roundg (gk - 1)
              case measure => omega
              case rel => exact ⟨j + 1, by omega, by go_num, HRD8.out, HB8.out⟩
            · obtain rfl : j = ps.length := by omega
              have htk : ps.take ps.length = ps := List.take_length
              have HLEFT := Lib.hid (rleft_any rg B6 S7 P _ wr HRD.out (by omega))
              rw [htk, HFF.out] at HLEFT
              have h8 : 8 * P.length - (flatS zs ss).length < 8 := by have := HPS.out; omega
              obtain ⟨lf, hlf⟩ : ∃ lf, 8 * P.length - (flatS zs ss).length = lf := ⟨_, rfl⟩
              rw [hlf] at HLEFT h8
              clear hlf htk
              go_wp2_with (first
                | (go_at_call 23; refine HLEFT.out.mono ?_; rintro e w8 ⟨rfl, nd, rfl⟩)
                | (go_at_call 7; refine (HLV.out _).mono ?_; rintro e w9 ⟨rfl, hb9⟩; have HB9 := Lib.hid hb9; clear hb9))
              go_ret
              have hb0 := HBE.out.trans (HBW.out.mono HBE.out.size)
              have hbx : Below w.heap.size w (wr.drewN nd) := ⟨hb0.os, hb0.tape, hb0.output, hb0.size, hb0.block⟩
              exact ⟨rfl, hbx.trans (HB9.out.mono hbx.size)⟩
end Go.Proofs.Ytjaeldollekhiaa
