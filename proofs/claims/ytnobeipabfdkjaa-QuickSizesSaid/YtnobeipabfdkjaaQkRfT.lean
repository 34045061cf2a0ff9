/- Layer 34: the reference's Take over a row of bits. -/
import Derived.Test.YtnobeipabfdkjaaQkBeg
import Derived.Test.YtnobeipabfdkjaaQkLaw
namespace Go.Proofs.Ytnobeipabfdkjaa
open Go.RowKit Go.Maps BitsP

theorem bits_rest {w : World} {B b o : Nat} {L : List Bool} (hbB : b < B) (h : ∀ j u, (byteCells (bitBytes L))[j]? = some u → w.cell? ⟨b, o + j, none⟩ = some u) (p : Nat) : Bytes w B (some ⟨b, o + p, none⟩) (bitBytes (L.drop p)) := fun _ => ⟨b, o + p, rfl, hbB, fun j u hu => by
  have h2 : (byteCells (bitBytes L))[p + j]? = some u := by
    unfold byteCells bitBytes at hu ⊢
    rw [List.getElem?_map, List.getElem?_map, List.getElem?_drop] at hu
    rw [List.getElem?_map, List.getElem?_map, hu]
  have := h (p + j) u h2
  rw [← Nat.add_assoc] at this
  exact this⟩
theorem caV_len (zs : List Int) : (caV zs).length = zs.length := by
  have := (vi_take zs (ordL zs).length (Nat.le_refl _)).1.len
  rw [List.take_length] at this
  exact this
/-- What the reference has seen of the symbols ahead of one. -/
def SeenT (zs : List Int) (U : List Bool) (i : Nat) (er : Int) : Prop :=
  (∀ s n v k, s < i → Sym zs s n v k → n ≤ U.length → begB (codeB v n) U = false) ∧
  ((er = 2 ∧ (U.length = 0 ∨ ∃ s n v k, Sym zs s n v k ∧ U.length < n)) ∨ (er = 13 ∧ U.length ≠ 0 ∧ ∀ s n v k, s < i → Sym zs s n v k → U.length < n → begB (codeB v n) U = false))
theorem SeenT.start (zs : List Int) (U : List Bool) : SeenT zs U 0 (if U.length = 0 then 2 else 13) := by
  refine ⟨fun s n v k h => by omega, ?_⟩
  by_cases h : U.length = 0
  · exact .inl ⟨if_pos h, .inl h⟩
  · exact .inr ⟨if_neg h, h, fun s n v k h => by omega⟩
/-- A symbol that has no code, or whose code isn't what they begin with. -/
theorem SeenT.skip {zs : List Int} {U : List Bool} {i : Nat} {er : Int} (h : SeenT zs U i er) (hi : ∀ n v k, Sym zs i n v k → begB (codeB v n) U = false) : SeenT zs U (i + 1) er := by
  refine ⟨fun s n v k hs hy hn => ?_, ?_⟩
  · rcases Nat.lt_or_ge s i with h1 | h1
    · exact h.1 s n v k h1 hy hn
    · obtain rfl : s = i := by omega
      exact hi n v k hy
  · rcases h.2 with h2 | ⟨h2, h3, h4⟩
    · exact .inl h2
    · refine .inr ⟨h2, h3, fun s n v k hs hy hn => ?_⟩
      rcases Nat.lt_or_ge s i with h1 | h1
      · exact h4 s n v k h1 hy hn
      · obtain rfl : s = i := by omega
        exact hi n v k hy
/-- There are no bits. -/
theorem SeenT.none_ {zs : List Int} {U : List Bool} {i : Nat} {er : Int} (h : SeenT zs U i er) (h0 : U.length = 0) : SeenT zs U (i + 1) er := by
  refine ⟨fun s n v k hs hy hn => by have := hy.one; omega, ?_⟩
  rcases h.2 with h2 | ⟨_, h3, _⟩
  · exact .inl h2
  · exact absurd h0 h3
/-- They begin a longer code. -/
theorem SeenT.long {zs : List Int} {U : List Bool} {i n v k : Nat} {er : Int} (h : SeenT zs U i er) (hy : Sym zs i n v k) (hn : U.length < n) : SeenT zs U (i + 1) 2 := by
  refine ⟨fun s n' v' k' hs hy' hn' => ?_, .inl ⟨rfl, .inr ⟨i, n, v, k, hy, hn⟩⟩⟩
  rcases Nat.lt_or_ge s i with h1 | h1
  · exact h.1 s n' v' k' h1 hy' hn'
  · obtain rfl : s = i := by omega
    have := (hy.one_val hy' rfl).1
    omega
theorem SeenT.end_ {zs : List Int} (hr : caR zs = true) {U : List Bool} {i : Nat} {er : Int} (h : SeenT zs U i er) (hi : zs.length ≤ i) : ∀ mx : Nat, isMax zs (mx : Int) → TakeR zs mx U 0 er 0 := by
  intro mx hm
  have hall : ∀ s n v k, Sym zs s n v k → s < i := fun s n v k hy => by have := (List.getElem?_eq_some_iff.1 hy.len).1; omega
  rcases h.2 with ⟨rfl, h2⟩ | ⟨rfl, h3, h4⟩
  · exact takeR_two hr hm (fun s n v k hy hn => h.1 s n v k (hall s n v k hy) hy hn) h2
  · refine takeR_13 hr hm fun s n v k hy => ?_
    rcases Nat.lt_or_ge U.length n with h5 | h5
    · exact h4 s n v k (hall s n v k hy) hy h5
    · exact h.1 s n v k (hall s n v k hy) hy h5
theorem noCode {zs : List Int} {i : Nat} {U : List Bool} (h : zs[i]? = some ((0 : Nat) : Int)) : ∀ n v k, Sym zs i n v k → begB (codeB v n) U = false := fun n v k hy => by
  have h2 := Option.some.inj (hy.len.symm.trans h)
  have := hy.one
  omega
set_option maxRecDepth 100000 in
set_option maxHeartbeats 600000 in
theorem refTake8_any (A1 A2 A3 : Option Addr) (l c1 c2 lr c3 : Nat) (zs : List Int) (L : List Bool) (p : Nat) (w : World) (hr : caR zs = true) (hl : zs.length = l) (h1 : Cells w w.heap.size A1 (zs.map ic)) (h2 : Cells w w.heap.size A2 ((caV zs).map ic)) (hL : L.length = lr) (hlr : lr ≤ 1000000) (hc : lr ≤ c3) (h3 : Bytes w w.heap.size A3 (bitBytes L)) (hp : p ≤ lr) :
    Calls Try.prog 21 #[.slice A1 l c1, .slice A2 l c2, .slice A3 lr c3, .int .i64 (p : Int)] w
      fun e w' => ∃ (on : Nat) (s er : Int), e = .returned (.tuple #[.int .i64 s, .int .i64 (on : Int), .int .i64 er]) ∧ (∀ mx : Nat, isMax zs (mx : Int) → TakeR zs mx (L.drop p) s er on) ∧ Below w.heap.size w w' := by
  have h320 := (caR_len hr).1
  have HLB := Lib.hid (caR_len hr).2
  obtain ⟨U, hU⟩ : ∃ U, L.drop p = U := ⟨_, rfl⟩
  have hUl : U.length = lr - p := by rw [← hU, List.length_drop, hL]
  have HUL := Lib.hid hUl
  have HL := Lib.hid hl
  have HR := Lib.hid hr
  have HCL : Hid ((caV zs).length = l) := by show _ = _; rw [caV_len, hl]
  have HC1 : Hid (∀ i z, zs[i]? = some z → ∃ b o, A1 = some ⟨b, o, none⟩ ∧ ∀ V, Below w.heap.size w V → V.cell? ⟨b, o + i, none⟩ = some (.int .i64 z)) := fun i z hz => by
    obtain ⟨b, o, rfl, hb, hcc⟩ := h1 (by rw [List.length_map]; have := (List.getElem?_eq_some_iff.1 hz).1; omega)
    exact ⟨b, o, rfl, fun V hV => (hV.cell (p := ⟨b, o + i, none⟩) (by show b < _; omega)).trans (hcc i _ (by rw [List.getElem?_map, hz]; rfl))⟩
  have HC2 : Hid (∀ i z, (caV zs)[i]? = some z → ∃ b o, A2 = some ⟨b, o, none⟩ ∧ ∀ V, Below w.heap.size w V → V.cell? ⟨b, o + i, none⟩ = some (.int .i64 z)) := fun i z hz => by
    obtain ⟨b, o, rfl, hb, hcc⟩ := h2 (by rw [List.length_map]; have := (List.getElem?_eq_some_iff.1 hz).1; omega)
    exact ⟨b, o, rfl, fun V hV => (hV.cell (p := ⟨b, o + i, none⟩) (by show b < _; omega)).trans (hcc i _ (by rw [List.getElem?_map, hz]; rfl))⟩
  have HC3 : Hid (p < lr → ∃ b o, A3 = some ⟨b, o, none⟩ ∧ ∀ V, Below w.heap.size w V → Bytes V w.heap.size (some ⟨b, o + p, none⟩) (bitBytes U)) := fun hlt => by
    obtain ⟨b, o, rfl, hb, hcc⟩ := h3 (by rw [byteCells_length, bitBytes_length, hL]; omega)
    exact ⟨b, o, rfl, fun V hV => by
      rw [← hU]
      exact bits_rest hb (fun j u hu => (hV.cell (p := ⟨b, o + j, none⟩) (by show b < _; omega)).trans (hcc j u hu)) p⟩
  have HU := Lib.hid hU
  have hl320 : l ≤ 320 := by omega
  clear h1 h2 h3 hU hUl hr hl hL h320
  obtain ⟨UL, hUL⟩ : ∃ UL, U.length = UL := ⟨_, rfl⟩
  have HUU := Lib.hid hUL
  have hULp : UL = lr - p := by rw [← hUL]; exact HUL.out
  clear hUL
  go_enter Try.func21, Try.ntmps21
  by_cases hp0 : UL = 0
  · have u1 : decide (lr ≤ p) = true := by simp; omega
    have HULP := Lib.hid hULp
    clear hULp
    go_wp2
    go_loopg [11, 12] l (fun gk s11 s12 wr => ∃ (i : Nat) (er : Int), i + gk = l ∧ s12 = .int .i64 (i : Int) ∧ s11 = .int .i64 er ∧ Below w.heap.size w wr ∧ SeenT zs U i er)
    case atStart => exact ⟨0, 2, by omega, rfl, rfl, Below.refl _ _, by have := SeenT.start zs U; rwa [if_pos (by rw [HUU.out]; exact hp0)] at this⟩
    case round =>
      obtain ⟨i, er, hi, rfl, rfl, hb5, hst⟩ := hrel
      have HB5 := Lib.hid hb5
      have HST := Lib.hid hst
      clear hb5 hst
      by_cases hil : i < l
      · have u2 : decide (i < l) = true := by simp; omega
        obtain ⟨zi, hzi⟩ : ∃ z, zs[i]? = some z := ⟨_, List.getElem?_eq_getElem (by rw [HL.out]; exact hil)⟩
        have hbi := lenB_yes (HLB.out zi (List.mem_of_getElem? hzi))
        obtain ⟨n, rfl⟩ := Int.eq_ofNat_of_zero_le hbi.1
        have hn15 : n ≤ 15 := by omega
        obtain ⟨b1, o1, rfl, hcz⟩ := HC1.out i _ hzi
        have HCZ := Lib.hid hcz
        have HZI := Lib.hid hzi
        clear hbi hzi hcz
        by_cases hn0 : n = 0
        · subst hn0
          obtain ⟨v, hv⟩ : ∃ v, (caV zs)[i]? = some v := ⟨_, List.getElem?_eq_getElem (by rw [HCL.out]; exact hil)⟩
          obtain ⟨b2, o2, rfl, hcv⟩ := HC2.out i _ hv
          have S6 : wr.drew.cell? ⟨b1, o1 + i, none⟩ = some (.int .i64 0) ∧ wr.drew.cell? ⟨b2, o2 + i, none⟩ = some (.int .i64 v) := ⟨HCZ.out _ HB5.out.drew, hcv _ HB5.out.drew⟩
          have z0 : wr.drew.cell? ⟨b1, o1 + i, none⟩ = some (.int .i64 0) := S6.1
          have HST2 : Hid (SeenT zs U (i + 1) er) := HST.out.skip (noCode HZI.out)
          clear hv hcv
          go_upto_region 7 with fail
          go_region_held3 (fun V => V.cell? ⟨b1, o1 + i, none⟩ = some (.int .i64 0) ∧ V.cell? ⟨b2, o2 + i, none⟩ = some (.int .i64 v)) (first | exact S6)
            ((first | (go_at_call 33; refine (refBits_zero v _).mono ?_; rintro e w2 ⟨rfl, rfl⟩)))
          go_wp2
          go_roundg (gk - 1)
          case measure => omega
          case rel => exact ⟨i + 1, er, by omega, by go_num, rfl, HB5.out.drew, HST2.out⟩
        · obtain ⟨v, k, hy⟩ := sym_of HZI.out (by omega) hn15
          obtain ⟨b2, o2, rfl, hcv⟩ := HC2.out i _ hy.val
          have HCV := Lib.hid hcv
          have hv15 := hy.lt HR.out
          have hp15 : (2 : Nat) ^ n ≤ 32768 := Nat.le_trans (Nat.pow_le_pow_right (by decide) hn15) (by decide)
          have S6 : wr.drew.cell? ⟨b1, o1 + i, none⟩ = some (.int .i64 (n : Int)) ∧ wr.drew.cell? ⟨b2, o2 + i, none⟩ = some (.int .i64 (v : Int)) := ⟨HCZ.out _ HB5.out.drew, hcv _ HB5.out.drew⟩
          have HBT := Lib.hid (fun V => refBits_any v n V (by omega) hn15)
          have HY := Lib.hid hy
          have u3 : (n == 0) = false := by simp [hn0]
          have u3' : ((n : Int) == 0) = false := by simp; omega
          clear hv15 hp15 hcv hy
          go_upto_region 7 with fail
          go_region_held3 (fun V => V.cell? ⟨b1, o1 + i, none⟩ = some (.int .i64 (n : Int)) ∧ V.cell? ⟨b2, o2 + i, none⟩ = some (.int .i64 (v : Int))) (first | exact S6 | exact S7)
            ((first | (go_at_call 33; refine (HBT.out _).mono ?_; rintro e w2 ⟨A4, c4, rfl, ho2, hb2⟩; have HO2 := Lib.hid ho2; have HB2 : Hid (Below w.heap.size w w2) := HB5.out.drew.trans (hb2.mono HB5.out.size); have S7 : w2.cell? ⟨b1, o1 + i, none⟩ = some (.int .i64 (n : Int)) ∧ w2.cell? ⟨b2, o2 + i, none⟩ = some (.int .i64 (v : Int)) := ⟨HCZ.out _ HB2.out, HCV.out _ HB2.out⟩; clear ho2 hb2)))
          clear S6
          obtain ⟨x1, x2⟩ := S7
          have HST2 := Lib.hid (HST.out.none_ (by rw [HUU.out]; exact hp0))
          go_wp2
          go_roundg (gk - 1)
          case measure => omega
          case rel => exact ⟨i + 1, er, by omega, by go_num, rfl, HB2.out, HST2.out⟩
      · have u2 : decide (i < l) = false := by simp; omega
        have HE := Lib.hid (HST.out.end_ HR.out (by rw [HL.out]; omega))
        go_wp2
        refine bodyPost_ret (v := .tuple #[.int .i64 0, .int .i64 0, .int .i64 er]) (by simp [results, Try.results21, go_sem]) rfl ⟨0, 0, er, rfl, ?_, HB5.out⟩
        rw [HU.out]
        exact HE.out
  · have u1 : decide (lr ≤ p) = false := by simp; omega
    have HULP := Lib.hid hULp
    have hplr : p < lr := by omega
    clear hULp
    go_wp2
    go_loopg [11, 12] l (fun gk s11 s12 wr => ∃ (i : Nat) (er : Int), i + gk = l ∧ s12 = .int .i64 (i : Int) ∧ s11 = .int .i64 er ∧ Below w.heap.size w wr ∧ SeenT zs U i er)
    case atStart => exact ⟨0, 13, by omega, rfl, rfl, Below.refl _ _, by have := SeenT.start zs U; rwa [if_neg (by rw [HUU.out]; exact hp0)] at this⟩
    case round =>
      obtain ⟨i, er, hi, rfl, rfl, hb5, hst⟩ := hrel
      have HB5 := Lib.hid hb5
      have HST := Lib.hid hst
      clear hb5 hst
      by_cases hil : i < l
      · have u2 : decide (i < l) = true := by simp; omega
        obtain ⟨zi, hzi⟩ : ∃ z, zs[i]? = some z := ⟨_, List.getElem?_eq_getElem (by rw [HL.out]; exact hil)⟩
        have hbi := lenB_yes (HLB.out zi (List.mem_of_getElem? hzi))
        obtain ⟨n, rfl⟩ := Int.eq_ofNat_of_zero_le hbi.1
        have hn15 : n ≤ 15 := by omega
        obtain ⟨b1, o1, rfl, hcz⟩ := HC1.out i _ hzi
        have HCZ := Lib.hid hcz
        have HZI := Lib.hid hzi
        clear hbi hzi hcz
        by_cases hn0 : n = 0
        · subst hn0
          obtain ⟨v, hv⟩ : ∃ v, (caV zs)[i]? = some v := ⟨_, List.getElem?_eq_getElem (by rw [HCL.out]; exact hil)⟩
          obtain ⟨b2, o2, rfl, hcv⟩ := HC2.out i _ hv
          have S6 : wr.drew.cell? ⟨b1, o1 + i, none⟩ = some (.int .i64 0) ∧ wr.drew.cell? ⟨b2, o2 + i, none⟩ = some (.int .i64 v) := ⟨HCZ.out _ HB5.out.drew, hcv _ HB5.out.drew⟩
          have z0 : wr.drew.cell? ⟨b1, o1 + i, none⟩ = some (.int .i64 0) := S6.1
          have HST2 : Hid (SeenT zs U (i + 1) er) := HST.out.skip (noCode HZI.out)
          clear hv hcv
          go_upto_region 7 with fail
          go_region_held3 (fun V => V.cell? ⟨b1, o1 + i, none⟩ = some (.int .i64 0) ∧ V.cell? ⟨b2, o2 + i, none⟩ = some (.int .i64 v)) (first | exact S6)
            ((first | (go_at_call 33; refine (refBits_zero v _).mono ?_; rintro e w2 ⟨rfl, rfl⟩)))
          go_wp2
          go_roundg (gk - 1)
          case measure => omega
          case rel => exact ⟨i + 1, er, by omega, by go_num, rfl, HB5.out.drew, HST2.out⟩
        · obtain ⟨v, k, hy⟩ := sym_of HZI.out (by omega) hn15
          obtain ⟨b2, o2, rfl, hcv⟩ := HC2.out i _ hy.val
          have HCV := Lib.hid hcv
          have hv15 := hy.lt HR.out
          have hp15 : (2 : Nat) ^ n ≤ 32768 := Nat.le_trans (Nat.pow_le_pow_right (by decide) hn15) (by decide)
          have S6 : wr.drew.cell? ⟨b1, o1 + i, none⟩ = some (.int .i64 (n : Int)) ∧ wr.drew.cell? ⟨b2, o2 + i, none⟩ = some (.int .i64 (v : Int)) := ⟨HCZ.out _ HB5.out.drew, hcv _ HB5.out.drew⟩
          have HBT := Lib.hid (fun V => refBits_any v n V (by omega) hn15)
          have HY := Lib.hid hy
          have u3 : (n == 0) = false := by simp [hn0]
          have u3' : ((n : Int) == 0) = false := by simp; omega
          clear hv15 hp15 hcv hy
          go_upto_region 7 with fail
          go_region_held3 (fun V => V.cell? ⟨b1, o1 + i, none⟩ = some (.int .i64 (n : Int)) ∧ V.cell? ⟨b2, o2 + i, none⟩ = some (.int .i64 (v : Int))) (first | exact S6 | exact S7)
            ((first | (go_at_call 33; refine (HBT.out _).mono ?_; rintro e w2 ⟨A4, c4, rfl, ho2, hb2⟩; have HO2 := Lib.hid ho2; have HB2 : Hid (Below w.heap.size w w2) := HB5.out.drew.trans (hb2.mono HB5.out.size); have S7 : w2.cell? ⟨b1, o1 + i, none⟩ = some (.int .i64 (n : Int)) ∧ w2.cell? ⟨b2, o2 + i, none⟩ = some (.int .i64 (v : Int)) := ⟨HCZ.out _ HB2.out, HCV.out _ HB2.out⟩; clear ho2 hb2)))
          clear S6
          obtain ⟨x1, x2⟩ := S7
          obtain ⟨b3, o3, rfl, hc3⟩ := HC3.out (by have := HULP.out; omega)
          have HBG := Lib.hid (refBegins_any A4 (some ⟨b3, o3 + p, none⟩) n (lr - p) c4 (c3 - p) w2.heap.size w.heap.size (codeB v n) U w2 (codeB_len v n) HUL.out (by omega) (by omega) (Cells.of_own HO2.out) (hc3 _ HB2.out))
          have hsub : IntKind.i64.wrap ((lr : Int) - (p : Int)) = (UL : Int) := by have := HULP.out; rw [IntWalk.i64_in _ (by omega)]; omega
          clear hc3
          cases hbg : begB (codeB v n) U with
          | false =>
            rw [hbg] at HBG
            have HST2 : Hid (SeenT zs U (i + 1) er) := HST.out.skip fun n' v' k' hy' => by
              obtain ⟨rfl, rfl⟩ := HY.out.one_val hy' rfl
              exact hbg
            clear hbg
            go_wp2_with (go_at_call 32; refine HBG.out.mono ?_; rintro e w3 ⟨rfl, nd, rfl⟩)
            go_roundg (gk - 1)
            case measure => omega
            case rel => exact ⟨i + 1, er, by omega, by go_num, rfl, below_drewN HB2.out nd, HST2.out⟩
          | true =>
            rw [hbg] at HBG
            by_cases hnu : n ≤ UL
            · have HIT : Hid (HitZ U n v) := (beg_fit HR.out HY.out (by rw [HUU.out]; exact hnu)).1 hbg
              have u4 : decide (n ≤ UL) = true := by simp; omega
              clear hbg
              go_upto_region 9 with (go_at_call 32; refine HBG.out.mono ?_; rintro e w3 ⟨rfl, nd, rfl⟩)
              go_upto_region 10 with fail
              go_region
              go_wp2
              refine bodyPost_ret (v := .tuple #[.int .i64 (i : Int), .int .i64 (n : Int), .int .i64 0]) (by simp [results, Try.results21, go_sem]) rfl ⟨n, (i : Int), 0, rfl, fun mx _ => ?_, below_drewN HB2.out (nd + 1)⟩
              rw [HU.out]
              exact takeR_hit HY.out HIT.out (by rw [HUU.out]; exact hnu)
            · have HST2 : Hid (SeenT zs U (i + 1) 2) := HST.out.long HY.out (by rw [HUU.out]; omega)
              have u4 : decide (n ≤ UL) = false := by simp; omega
              clear hbg
              go_wp2_with (go_at_call 32; refine HBG.out.mono ?_; rintro e w3 ⟨rfl, nd, rfl⟩)
              go_roundg (gk - 1)
              case measure => omega
              case rel => exact ⟨i + 1, 2, by omega, by go_num, rfl, below_drewN HB2.out nd, HST2.out⟩
      · have u2 : decide (i < l) = false := by simp; omega
        have HE := Lib.hid (HST.out.end_ HR.out (by rw [HL.out]; omega))
        go_wp2
        refine bodyPost_ret (v := .tuple #[.int .i64 0, .int .i64 0, .int .i64 er]) (by simp [results, Try.results21, go_sem]) rfl ⟨0, 0, er, rfl, ?_, HB5.out⟩
        rw [HU.out]
        exact HE.out
end Go.Proofs.Ytnobeipabfdkjaa
