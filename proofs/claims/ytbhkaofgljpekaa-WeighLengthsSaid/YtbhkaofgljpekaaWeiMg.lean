/- Layer 7: items and pairs, merged. -/
import Derived.Test.YtbhkaofgljpekaaWeiEl
import Derived.Deep.LoopGhost
import Derived.Deep.QuietTactic
import Derived.BigQuiet
import Derived.Deep.RegionLaw
import Derived.IntWalk
namespace Go.Proofs.Ytbhkaofgljpekaa
open Go.RowKit

/-- The cells of a row that is left: its first element, or none. -/
structure Left (w : World) (B k : Nat) (A : Option Addr) (n c : Nat) (xs : List WE) (cs : List Value) : Prop where
  len : xs.length = n
  cap : n ≤ c
  mem : Cells w B A cs
  row : RowE w B k xs cs
theorem Left.below {w w' : World} {B B' k n c : Nat} {A : Option Addr} {xs : List WE} {cs : List Value} (h : Left w B k A n c xs cs) (hb : Below B' w w') (hB : B ≤ B') : Left w' B k A n c xs cs :=
  ⟨h.len, h.cap, h.mem.below hb hB, h.row.below hb hB (Nat.le_refl _)⟩
theorem Left.next {w : World} {B k n c b o : Nat} {x : WE} {xs : List WE} {cs : List Value} (h : Left w B k (some ⟨b, o, none⟩) n c (x :: xs) cs) (hc : 1 < c) : Left w B k (some ⟨b, o + 4, none⟩) (n - 1) (c - 1) xs (cs.drop 4) := by
  obtain ⟨d, e, rfl, hx, hr⟩ := h.row.cons
  have hl := h.len
  rw [List.length_cons] at hl
  have hd : d.length = 4 := hx.four
  have e4 : (d ++ e).drop 4 = e := by rw [← hd]; simp
  rw [e4]
  refine ⟨by omega, by have := h.cap; omega, fun hp => ?_, hr⟩
  obtain ⟨b', o', he, hb, hm⟩ := h.mem (by rw [List.length_append]; omega)
  injection he with he
  injection he with h1 h2 _
  subst h1 h2
  exact ⟨b, o + 4, rfl, hb, fun j u hu => by
    rw [Nat.add_assoc]
    exact hm _ _ (by rw [List.getElem?_append_right (by omega), hd, show 4 + j - 4 = j by omega]; exact hu)⟩
theorem Left.last {w : World} {B k n c : Nat} {A : Option Addr} {x : WE} {xs : List WE} {cs : List Value} (h : Left w B k A n c (x :: xs) cs) (hc : c = 1) (A' : Option Addr) : n = 1 ∧ xs = [] ∧ Left w B k A' 0 0 [] [] := by
  have h1 := h.len
  have h2 := h.cap
  rw [List.length_cons] at h1
  exact ⟨by omega, List.eq_nil_of_length_eq_zero (by omega), rfl, Nat.le_refl _, Cells.nil _ _ _, RowE.nil _ _ _⟩

set_option maxHeartbeats 2000000 in
theorem merge_any (A1 A2 : Option Addr) (l1 c1 l2 c2 : Nat) (xs1 xs2 : List WE) (cs1 cs2 : List Value) (k B : Nat) (w : World) (hm1 : l1 ≤ 1000) (hm2 : l2 ≤ 1000) (hB : B ≤ w.heap.size)
    (h1 : Left w B k A1 l1 c1 xs1 cs1) (h2 : Left w B k A2 l2 c2 xs2 cs2) :
    Calls Try.prog 31 #[.slice A1 l1 c1, .slice A2 l2 c2] w fun e w' => ∃ A' n' c' cs', e = .returned (.slice A' n' c') ∧ n' = l1 + l2 ∧ w'.ownsRow w.heap.size 42 4 (.slice A' n' c') n' cs' ∧ RowE w' B k (mgW xs1 xs2) cs' ∧ Below w.heap.size w w' := by
  have H1 := Lib.hid h1
  have H2 := Lib.hid h2
  clear h1 h2
  go_enter Try.func31, Try.ntmps31
  go_wp2
  go_loopg [0, 5, 10] l2 (fun gk it v i wr => ∃ j : Nat, j + gk = l2 ∧ i = .int .i64 j ∧ ∃ A n c rest ds, it = .slice A n c ∧ Left wr B k A n c rest ds ∧ n ≤ l1 ∧
    ∃ A' n' c' acc cs', v = .slice A' n' c' ∧ n' + n = l1 + j ∧ wr.ownsRow w.heap.size 42 4 (.slice A' n' c') n' cs' ∧ RowE wr B k acc cs' ∧ mgW xs1 xs2 = acc ++ mgW rest (xs2.drop j) ∧ Below w.heap.size w wr)
  case atStart => exact ⟨0, by omega, rfl, A1, l1, c1, xs1, cs1, rfl, H1.out, Nat.le_refl _, none, 0, 0, [], [], rfl, by omega, World.ownsRow_nil _ _ _ _, RowE.nil _ _ _, rfl, Below.refl _ _⟩
  case round =>
    obtain ⟨j, hj, rfl, A, n, c, rest, ds, rfl, hleft, hnl, A', n', c', acc, cs', rfl, hn', hown, hrow, heq, hbel⟩ := hrel
    have HLEFT := Lib.hid hleft
    have HOWN := Lib.hid hown
    have HROW := Lib.hid hrow
    have HEQ := Lib.hid heq
    have HBEL := Lib.hid hbel
    clear hleft hown hrow heq hbel
    by_cases h : j < l2
    · obtain ⟨p, hp⟩ : ∃ p, xs2[j]? = some p := ⟨_, List.getElem?_eq_getElem (by have := H2.out.len; omega)⟩
      have HDR : Hid (xs2.drop j = p :: xs2.drop (j + 1)) := by
        show _ = _
        obtain ⟨hlt, he⟩ := List.getElem?_eq_some_iff.1 hp
        rw [List.drop_eq_getElem_cons hlt, he]
      obtain ⟨b2, o2, rfl, hb2, hc2⟩ := (H2.out.below HBEL.out hB).mem (by rw [H2.out.row.len, H2.out.len]; omega)
      obtain ⟨cp, hep, hat⟩ := H2.out.row.at_ hp
      have hap : At wr b2 (o2 + j * 4) cp := fun r u hu => by rw [Nat.add_assoc]; exact hc2 _ _ (hat r u hu)
      obtain ⟨sp, pp, qp, hcp⟩ := hep.len
      subst hcp
      have d0 : wr.cell? ⟨b2, o2 + j * 4, none⟩ = some (.int .i64 (p.1 : Int)) := hap 0 _ rfl
      have d1 : wr.cell? ⟨b2, o2 + j * 4 + 1, none⟩ = some (.int .i64 (sp : Int)) := hap 1 _ rfl
      have d2 : wr.cell? ⟨b2, o2 + j * 4 + 2, none⟩ = some (.pointer pp) := hap 2 _ rfl
      have d3 : wr.cell? ⟨b2, o2 + j * 4 + 3, none⟩ = some (.pointer qp) := hap 3 _ rfl
      have HEP := Lib.hid hep
      clear hp hc2 hep hap hat
      obtain ⟨pw, ps⟩ := p
      dsimp only at *
      go_wp2
      obtain ⟨g, hg⟩ : ∃ g, wr.heap.size = g := ⟨_, rfl⟩
      obtain ⟨W1, hW1⟩ : ∃ W1, wr.alloc (.cells #[.int .i64 (pw : Int), .int .i64 (sp : Int), .pointer pp, .pointer qp] 42) = W1 := ⟨_, rfl⟩
      have HG1 : Hid (W1.heap[g]? = some (.cells #[.int .i64 (pw : Int), .int .i64 (sp : Int), .pointer pp, .pointer qp] 42 (0, 0))) := by show _ = _; rw [← hW1, ← hg]; exact heap_alloc_new wr _
      have HLT : Hid (∀ b, ownS (.slice A' n' c') b → b < g) := fun b hb => by rw [← hg]; exact (HOWN.out.lt b hb).2
      have HOW1 : Hid (W1.ownsRow w.heap.size 42 4 (.slice A' n' c') n' cs') := by show World.ownsRow _ _ _ _ _ _ _; rw [← hW1]; exact HOWN.out.alloc _
      have HBE1 : Hid (Below w.heap.size w W1) := by show Below _ _ _; rw [← hW1]; exact HBEL.out.alloc HBEL.out.size _
      have HBW1 : Hid (Below wr.heap.size wr W1) := by show Below _ _ _; rw [← hW1]; exact (Below.refl _ _).alloc (Nat.le_refl _) _
      have HBS := Lib.hid HBEL.out.size
      obtain ⟨GK, hGK⟩ : ∃ GK, GK = gk := ⟨_, rfl⟩
      subst hGK
      rw [hW1, hg]
      clear hW1 d0 d1 d2 d3
      go_loopg [0, 5] n (fun gi it v wi => ∃ A n c rest ds, n = gi ∧ it = .slice A n c ∧ Left wi B k A n c rest ds ∧ n ≤ l1 ∧
        ∃ A' n' c' acc cs', v = .slice A' n' c' ∧ n' + n = l1 + j ∧ wi.ownsRow w.heap.size 42 4 (.slice A' n' c') n' cs' ∧ RowE wi B k acc cs' ∧ mgW xs1 xs2 = acc ++ mgW rest ((pw, ps) :: xs2.drop (j + 1)) ∧ Below w.heap.size w wi ∧
          wi.heap[g]? = some (.cells #[.int .i64 (pw : Int), .int .i64 (sp : Int), .pointer pp, .pointer qp] 42 (0, 0)) ∧ ¬ ownS (.slice A' n' c') g)
      case atStart => exact ⟨A, n, c, rest, ds, rfl, rfl, HLEFT.out.below HBW1.out (Nat.le_trans hB HBS.out), hnl, A', n', c', acc, cs', rfl, hn', HOW1.out, HROW.out.below HBW1.out (Nat.le_trans hB HBS.out) (Nat.le_refl _), by rw [← HDR.out]; exact HEQ.out, HBE1.out, HG1.out, fun h => Nat.lt_irrefl _ (HLT.out g h)⟩
      case round =>
        clear HLEFT HOWN HROW HEQ HOW1 HG1 HLT hn' hnl
        obtain ⟨A, n, c, rest, ds, rfl, rfl, hleft, hnl, A', n', c', acc, cs', rfl, hn', hown, hrow, heq, hbel2, hgw, hng⟩ := hrel
        have HLEFT := Lib.hid hleft
        have HOWN := Lib.hid hown
        have HROW := Lib.hid hrow
        have HEQ := Lib.hid heq
        have HBE2 := Lib.hid hbel2
        have HGW := Lib.hid hgw
        have HNG := Lib.hid hng
        clear hleft hown hrow heq hbel2 hgw hng
        have g0 : wr.cell? ⟨g, 0, none⟩ = some (.int .i64 (pw : Int)) := cell_of_row wr g 0 _ _ _ HGW.out
        have g1 : wr.cell? ⟨g, 1, none⟩ = some (.int .i64 (sp : Int)) := cell_of_row wr g 1 _ _ _ HGW.out
        have g2 : wr.cell? ⟨g, 2, none⟩ = some (.pointer pp) := cell_of_row wr g 2 _ _ _ HGW.out
        have g3 : wr.cell? ⟨g, 3, none⟩ = some (.pointer qp) := cell_of_row wr g 3 _ _ _ HGW.out
        cases rest with
        | nil =>
          have hn0 : n = 0 := by have := HLEFT.out.len; simpa using this.symm
          have hd : decide (0 < n) = false := by simp [hn0]
          have hd2 : decide ((0 : Int) < (n : Int)) = false := by simp [hn0]
          clear hn0
          go_wp2
          go_quiet (fail)
          obtain ⟨W, hW⟩ : ∃ W, wr.drewN nq = W := ⟨_, rfl⟩
          have HOW2 : Hid (W.ownsRow w.heap.size 42 4 (.slice A' n' c') n' cs') := by show World.ownsRow _ _ _ _ _ _ _; rw [← hW]; exact HOWN.out
          have HB2 : Hid (Below w.heap.size w W) := by show Below _ _ _; rw [← hW]; exact dnBelow HBE2.out nq
          have HB3 : Hid (Below wr.heap.size wr W) := by show Below _ _ _; rw [← hW]; exact dnBelow (Below.refl _ _) nq
          have e0 : W.cell? ⟨g, 0, none⟩ = some (.int .i64 (pw : Int)) := by rw [← hW]; exact g0
          have e1 : W.cell? ⟨g, 1, none⟩ = some (.int .i64 (sp : Int)) := by rw [← hW]; exact g1
          have e2 : W.cell? ⟨g, 2, none⟩ = some (.pointer pp) := by rw [← hW]; exact g2
          have e3 : W.cell? ⟨g, 3, none⟩ = some (.pointer qp) := by rw [← hW]; exact g3
          rw [hW]
          clear hW g0 g1 g2 g3
          go_wp2_with (at_builtin; refine wpList_app1 W elElem rfl (.tmp 34) (.tmp 36) rfl w.heap.size (.slice A' n' c') n' cs' rfl HOW2.out _ rfl rfl (by simp [Value.oneCell']) (by unfold maxLen; omega) (by omega) HB2.out.size ?_; intro A4 c4 w7 hA; have HA := Lib.hid hA; clear hA)
          go_roundg (GK - 1)
          case measure => omega
          case rel =>
            have HB7 : Below w.heap.size wr w7 := HA.out.below (HB3.out.mono HBE2.out.size) HB2.out.size (own_base HOW2.out)
            have HB8 : Below w.heap.size w w7 := HA.out.below HB2.out HB2.out.size (own_base HOW2.out)
            refine ⟨j + 1, by omega, by go_num, A, n, c, [], ds, rfl, HLEFT.out.below HB7 hB, hnl, A4, n' + 1, c4, acc ++ [(pw, ps)], _, rfl, by omega, HA.out.own, (HROW.out.below HB7 hB (Nat.le_refl _)).snoc (HEP.out.below HB8 hB (Nat.le_refl _)), ?_, HB8⟩
            rw [HEQ.out, mg_none, List.append_assoc]
            rfl
        | cons x rest =>
          have hn1 : n = rest.length + 1 := by have := HLEFT.out.len; simpa using this.symm
          have hnp : 0 < n := by omega
          obtain ⟨b1, o1, rfl, hb1, hc1⟩ := HLEFT.out.mem (by rw [HLEFT.out.row.len, HLEFT.out.len]; omega)
          obtain ⟨cx, dx, hds, hex, hrx⟩ := HLEFT.out.row.cons
          obtain ⟨sx, px, qx, hcx⟩ := hex.len
          subst hcx
          have x0 : wr.cell? ⟨b1, o1, none⟩ = some (.int .i64 (x.1 : Int)) := hc1 0 _ (by rw [hds]; rfl)
          have x1 : wr.cell? ⟨b1, o1 + 1, none⟩ = some (.int .i64 (sx : Int)) := hc1 1 _ (by rw [hds]; rfl)
          have x2 : wr.cell? ⟨b1, o1 + 2, none⟩ = some (.pointer px) := hc1 2 _ (by rw [hds]; rfl)
          have x3 : wr.cell? ⟨b1, o1 + 3, none⟩ = some (.pointer qx) := hc1 3 _ (by rw [hds]; rfl)
          have HEX := Lib.hid hex
          clear hc1 hex hds hrx hn1
          obtain ⟨xw, xs⟩ := x
          dsimp only at *
          have hcap := HLEFT.out.cap
          by_cases hle : xw ≤ pw
          · have hd : decide ((xw : Int) ≤ (pw : Int)) = true := by simp; omega
            go_wp2
            go_quiet (fail)
            obtain ⟨W, hW⟩ : ∃ W, wr.drewN nq = W := ⟨_, rfl⟩
            have HOW2 : Hid (W.ownsRow w.heap.size 42 4 (.slice A' n' c') n' cs') := by show World.ownsRow _ _ _ _ _ _ _; rw [← hW]; exact HOWN.out
            have HB2 : Hid (Below w.heap.size w W) := by show Below _ _ _; rw [← hW]; exact dnBelow HBE2.out nq
            have HB3 : Hid (Below wr.heap.size wr W) := by show Below _ _ _; rw [← hW]; exact dnBelow (Below.refl _ _) nq
            have HGW2 : Hid (W.heap[g]? = some (.cells #[.int .i64 (pw : Int), .int .i64 (sp : Int), .pointer pp, .pointer qp] 42 (0, 0))) := by show _ = _; rw [← hW]; exact HGW.out
            have e0 : W.cell? ⟨b1, o1, none⟩ = some (.int .i64 (xw : Int)) := by rw [← hW]; exact x0
            have e1 : W.cell? ⟨b1, o1 + 1, none⟩ = some (.int .i64 (sx : Int)) := by rw [← hW]; exact x1
            have e2 : W.cell? ⟨b1, o1 + 2, none⟩ = some (.pointer px) := by rw [← hW]; exact x2
            have e3 : W.cell? ⟨b1, o1 + 3, none⟩ = some (.pointer qx) := by rw [← hW]; exact x3
            rw [hW]
            clear hW g0 g1 g2 g3 x0 x1 x2 x3
            have h1c : 1 ≤ c := by omega
            have h1n : 1 ≤ n := by omega
            by_cases hc1 : c = 1
            · subst hc1
              go_wp2_with (at_builtin; refine wpList_app1 W elElem rfl (.tmp 26) (.tmp 30) rfl w.heap.size (.slice A' n' c') n' cs' rfl HOW2.out _ rfl rfl (by simp [Value.oneCell']) (by unfold maxLen; omega) (by omega) HB2.out.size ?_; intro A4 c4 w7 hA; have HA := Lib.hid hA; clear hA)
              go_roundg (n - 1)
              case measure => omega
              case rel =>
                have HB7 : Below w.heap.size wr w7 := HA.out.below (HB3.out.mono HBE2.out.size) HB2.out.size (own_base HOW2.out)
                have HB8 : Below w.heap.size w w7 := HA.out.below HB2.out HB2.out.size (own_base HOW2.out)
                have HGA : w7.heap[g]? = some (.cells #[.int .i64 (pw : Int), .int .i64 (sp : Int), .pointer pp, .pointer qp] 42 (0, 0)) := (Mod.of_app HA.out).keep HGW2.out HNG.out
                have HGB : ¬ ownS (.slice A4 (n' + 1) c4) g := fun hh => by
                  rcases HA.out.place g hh with h1 | h1
                  · exact HNG.out h1
                  · have := (Array.getElem?_eq_some_iff.1 HGW2.out).1
                    omega
                obtain ⟨hn1, hr, hl⟩ := (HLEFT.out.below HB7 hB).last rfl (some ⟨b1, o1, none⟩)
                refine ⟨some ⟨b1, o1, none⟩, 0, 0, [], [], by omega, rfl, hl, Nat.zero_le _, A4, n' + 1, c4, acc ++ [(xw, xs)], _, rfl, by omega, HA.out.own, (HROW.out.below HB7 hB (Nat.le_refl _)).snoc (HEX.out.below HB7 hB (Nat.le_refl _)), ?_, HB8, HGA, HGB⟩
                rw [HEQ.out, hr, mg_step (by exact hle), List.append_assoc]
                rfl
            · have hc2 : 1 < c := by omega
              have hc3 : decide (c = 1) = false := by simpa using hc1
              have hc4 : decide (1 = c) = false := by simp; omega
              go_wp2_with (at_builtin; refine wpList_app1 W elElem rfl (.tmp 26) (.tmp 30) rfl w.heap.size (.slice A' n' c') n' cs' rfl HOW2.out _ rfl rfl (by simp [Value.oneCell']) (by unfold maxLen; omega) (by omega) HB2.out.size ?_; intro A4 c4 w7 hA; have HA := Lib.hid hA; clear hA)
              go_roundg (n - 1)
              case measure => omega
              case rel =>
                have HB7 : Below w.heap.size wr w7 := HA.out.below (HB3.out.mono HBE2.out.size) HB2.out.size (own_base HOW2.out)
                have HB8 : Below w.heap.size w w7 := HA.out.below HB2.out HB2.out.size (own_base HOW2.out)
                have HGA : w7.heap[g]? = some (.cells #[.int .i64 (pw : Int), .int .i64 (sp : Int), .pointer pp, .pointer qp] 42 (0, 0)) := (Mod.of_app HA.out).keep HGW2.out HNG.out
                have HGB : ¬ ownS (.slice A4 (n' + 1) c4) g := fun hh => by
                  rcases HA.out.place g hh with h1 | h1
                  · exact HNG.out h1
                  · have := (Array.getElem?_eq_some_iff.1 HGW2.out).1
                    omega
                refine ⟨some ⟨b1, o1 + 4, none⟩, n - 1, c - 1, rest, _, rfl, rfl, (HLEFT.out.below HB7 hB).next hc2, by omega, A4, n' + 1, c4, acc ++ [(xw, xs)], _, rfl, by omega, HA.out.own, (HROW.out.below HB7 hB (Nat.le_refl _)).snoc (HEX.out.below HB7 hB (Nat.le_refl _)), ?_, HB8, HGA, HGB⟩
                rw [HEQ.out, mg_step (by exact hle), List.append_assoc]
                rfl
          · have hd : decide ((xw : Int) ≤ (pw : Int)) = false := by simp; omega
            go_wp2
            go_quiet (fail)
            obtain ⟨W, hW⟩ : ∃ W, wr.drewN nq = W := ⟨_, rfl⟩
            have HOW2 : Hid (W.ownsRow w.heap.size 42 4 (.slice A' n' c') n' cs') := by show World.ownsRow _ _ _ _ _ _ _; rw [← hW]; exact HOWN.out
            have HB2 : Hid (Below w.heap.size w W) := by show Below _ _ _; rw [← hW]; exact dnBelow HBE2.out nq
            have HB3 : Hid (Below wr.heap.size wr W) := by show Below _ _ _; rw [← hW]; exact dnBelow (Below.refl _ _) nq
            have e0 : W.cell? ⟨g, 0, none⟩ = some (.int .i64 (pw : Int)) := by rw [← hW]; exact g0
            have e1 : W.cell? ⟨g, 1, none⟩ = some (.int .i64 (sp : Int)) := by rw [← hW]; exact g1
            have e2 : W.cell? ⟨g, 2, none⟩ = some (.pointer pp) := by rw [← hW]; exact g2
            have e3 : W.cell? ⟨g, 3, none⟩ = some (.pointer qp) := by rw [← hW]; exact g3
            rw [hW]
            clear hW g0 g1 g2 g3 x0 x1 x2 x3
            go_wp2_with (at_builtin; refine wpList_app1 W elElem rfl (.tmp 34) (.tmp 36) rfl w.heap.size (.slice A' n' c') n' cs' rfl HOW2.out _ rfl rfl (by simp [Value.oneCell']) (by unfold maxLen; omega) (by omega) HB2.out.size ?_; intro A4 c4 w7 hA; have HA := Lib.hid hA; clear hA)
            go_roundg (GK - 1)
            case measure => omega
            case rel =>
              have HB7 : Below w.heap.size wr w7 := HA.out.below (HB3.out.mono HBE2.out.size) HB2.out.size (own_base HOW2.out)
              have HB8 : Below w.heap.size w w7 := HA.out.below HB2.out HB2.out.size (own_base HOW2.out)
              refine ⟨j + 1, by omega, by go_num, some ⟨b1, o1, none⟩, n, c, (xw, xs) :: rest, ds, rfl, HLEFT.out.below HB7 hB, hnl, A4, n' + 1, c4, acc ++ [(pw, ps)], _, rfl, by omega, HA.out.own, (HROW.out.below HB7 hB (Nat.le_refl _)).snoc (HEP.out.below HB8 hB (Nat.le_refl _)), ?_, HB8⟩
              rw [HEQ.out, mg_stop (by exact hle), List.append_assoc]
              rfl
    · obtain rfl : j = l2 := by omega
      have HDN : Hid (xs2.drop j = []) := List.drop_of_length_le (by have := H2.out.len; omega)
      have HONE := Lib.hid HLEFT.out.row.one
      go_wp2_with (at_builtin; refine wpList_app wr elElem rfl (.tmp 39) (.tmp 40) rfl w.heap.size (.slice A' n' c') n' cs' rfl HOWN.out B A n c ds rfl (by rw [HLEFT.out.row.len, HLEFT.out.len]) HLEFT.out.mem HONE.out (by unfold maxLen; omega) (by omega) HBEL.out.size ?_; intro A4 c4 w7 hA; have HA := Lib.hid hA; clear hA)
      go_ret
      have HB7 : Below w.heap.size wr w7 := HA.out.below ((Below.refl _ _).mono HBEL.out.size) HBEL.out.size (own_base HOWN.out)
      have HB8 : Below w.heap.size w w7 := HA.out.below HBEL.out HBEL.out.size (own_base HOWN.out)
      refine ⟨A4, l1 + j, c4, _, rfl, rfl, by have := HA.out.own; rwa [hn'] at this, ?_, HB8⟩
      have := (HROW.out.below HB7 hB (Nat.le_refl _)).append (HLEFT.out.row.below HB7 hB (Nat.le_refl _))
      rw [HEQ.out, HDN.out]
      exact this
end Go.Proofs.Ytbhkaofgljpekaa
