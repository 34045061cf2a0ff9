/- Layer 5: the law NamesLook. -/
import Derived.Test.YtbfaefnlhcdnhaaNlP
import Derived.Test.YtbfaefnlhcdnhaaNsW
namespace Go.Proofs.Ytbfaefnlhcdnhaa
open Go.RowKit Go.Maps

theorem idAt_not {l : List Nt} {s : ByteArray} (h : hasK Nt.nm l s = false) : idAt l s = 0 := by
  unfold idAt
  rw [findK_not h]
set_option maxRecDepth 100000 in
set_option maxHeartbeats 2000000 in
theorem look5_any (A : Option Addr) (l c : Nat) (xs : List LOp) (nm : ByteArray) (n : Int) (w : World) (hl : xs.length = l) (hb : Cells w w.heap.size A (opCells xs)) (hn : ∀ x ∈ xs, (Lit.int .i64 x.n).wf = true) :
    Calls Try.prog 4 #[.slice A l c, .string nm, .int .i64 n] w fun e w' => e = .returned (.bool true) ∧ Below w.heap.size w w' := by
  have HL := Lib.hid hl
  have HC := Lib.hid hb
  have HN := Lib.hid hn
  have HG := Lib.hid (great5_any A l c xs w.heap.size w hl hb)
  have HLV : Hid (∀ W, Below w.heap.size w W → Calls Try.prog 8 #[] W fun e w' => e = .returned (.bool true) ∧ Below w.heap.size w w') := fun W hW => (lives5_any W).mono fun e w' h => ⟨h.1, hW.trans (h.2.mono hW.size)⟩
  have HGN := Lib.hid (goes_new w)
  clear hl hb hn
  go_enter Try.func4, Try.ntmps4
  go_wp2_with fail
  refine HG.out.mono ?_
  rintro e w1 ⟨o1, rfl, hw1, ho1⟩
  subst hw1
  cases o1 with
  | true =>
    go_wp2_with fail
    refine (HLV.out _ (Below.refl _ _)).mono ?_
    rintro e wL ⟨rfl, hbL⟩
    go_wp2
    go_ret
    exact ⟨rfl, hbL⟩
  | false =>
    have HO := Lib.hid (ho1 rfl)
    clear ho1
    by_cases hnz : 300 < nm.size
    · have hni : (300 : Int) < (nm.size : Int) := by omega
      go_wp2_with fail
      refine (HLV.out _ (Below.refl _ _)).mono ?_
      rintro e wL ⟨rfl, hbL⟩
      go_wp2
      go_ret
      exact ⟨rfl, hbL⟩
    · have hni : ¬ (300 : Int) < (nm.size : Int) := by omega
      have hl60 : l ≤ 60 := by have := HO.out.1; have := HL.out; omega
      obtain ⟨B, hB⟩ : ∃ B, w.heap.size = B := ⟨_, rfl⟩
      have HBB := Lib.hid hB
      go_wp2
      go_loopg [10] l (fun gk i wr => ∃ (k : Nat) (F G : Nat → Prop) (s : Nst), k + gk = l ∧ i = .int .i64 k ∧ LinkP s ∧ GoesN w w.heap.size wr w.heap.size (w.heap.size + 1) F G s k)
      case atStart => exact ⟨0, _, _, s00, by omega, rfl, link_new, HGN.out⟩
      case round =>
        obtain ⟨k, F, G, s, hk, rfl, hlp, hgo⟩ := hrel
        have HGO := Lib.hid hgo
        have HLP := Lib.hid hlp
        rw [hB] at HGO HLV
        clear hgo hlp
        have hBs : B ≤ wr.heap.size := by have := HGO.out.bel.size; omega
        by_cases h : k < l
        · obtain ⟨x, hx⟩ : ∃ x, xs[k]? = some x := ⟨_, List.getElem?_eq_getElem (by have := HL.out; omega)⟩
          obtain ⟨b', o, rfl, hbB, hc⟩ := HC.out (by rw [op_len]; have := HL.out; omega)
          obtain ⟨c0, c1, c2, c3⟩ := op_at (fun j u hj => (HGO.out.bel.cell (p := ⟨b', o + j, none⟩) (by rw [← hB]; exact hbB)).trans (hc j u hj)) hx
          have hxm := List.mem_of_getElem? hx
          have HXS := Lib.hid (HO.out.2 x hxm)
          have HDO := Lib.hid (does_any B (B + 1) F G s x wr HGO.out.both (by have := HGO.out.many; omega) (by have := HXS.out.1; omega) (by have := HXS.out.2; omega) (HN.out x hxm) (.inl HGO.out.pre))
          have hki : (k : Int) < (l : Int) := by omega
          have hw1 : IntKind.i64.wrap ((k : Int) + 1) = (k : Int) + 1 := IntWalk.i64_in _ (by omega)
          clear hc hx hxm
          go_wp2_with fail
          refine HDO.out.mono ?_
          rintro e w5 ⟨rfl, F', G', hwt⟩
          have hmany := opN_many HGO.out.both.ok x.kind x.a x.b x.n
          have HG5 := Lib.hid (HGO.out.went hBs hwt (by have := HGO.out.many; omega) (opN_pre HGO.out.pre _ _ _ _))
          have HL5 := Lib.hid (link_opN HGO.out.both.ok HLP.out x.kind x.a x.b x.n)
          clear hwt hmany
          go_wp2
          go_roundg (gk - 1)
          case measure => omega
          case rel => exact ⟨k + 1, F', G', _, by omega, by go_num, HL5.out, by rw [HBB.out]; exact HG5.out⟩
        · obtain rfl : k = l := by omega
          have hbel := HGO.out.bel
          have hri := HGO.out.both.ok.now_ris
          have hnl : s.now.length ≤ 1000 := by have := HGO.out.both.ok.now_len; have := HGO.out.many; have := s.ws_le; omega
          have hwl : s.ws.length ≤ 1000 := by have := HGO.out.many; have := s.ws_le; omega
          have hpl : s.past.length ≤ 1000 := by have := HGO.out.both.ok.len; have := HGO.out.pre; have := HGO.out.many; have := s.ws_le; omega
          have hps : ∀ p ∈ s.past, p.length ≤ 1000000 := fun p hp => by have := HGO.out.both.ok.past_len HGO.out.pre p hp; have := HGO.out.many; omega
          have HLK := Lib.hid (lookup5_any B F s.now s.safe s.ws nm wr HGO.out.both.dir hri (by omega))
          obtain ⟨An, cn, Ap, cp, pv, hrb⟩ := HGO.out.both.ref
          obtain ⟨m0, m1, _, _⟩ := hrb.cells
          have HFD := Lib.hid (refFind5_any An s.now.length cn s.now nm wr.heap.size wr rfl (by omega) hri (cells_of_ownD hrb.nw))
          have HNC := Lib.hid (cells_of_ownD hrb.nw)
          have HLI := Lib.hid (linked5_any B F s.now s.safe s.ws n wr HGO.out.both.dir HGO.out.both.ok.ris hwl)
          have HRL : Hid (∀ W, Below wr.heap.size wr W → Calls Try.prog 21 #[.pointer (some ⟨B + 1, 0, none⟩), .int .i64 n] W fun e w' => e = .returned (.bool (hasId s.safe n || madeId s.ws n)) ∧ W = w') := fun W hW => by
            rw [HLP.out n]
            exact rlinked5_any (B + 1) G s.now s.past n W (HGO.out.both.ref.keep (Mod.of_below hW) (fun _ _ h => h)) hpl hps (by omega)
          obtain ⟨qi, hqi⟩ : ∃ q, (hasId s.safe n || madeId s.ws n) = q := ⟨_, rfl⟩
          rw [hqi] at HLI HRL
          clear hqi hps hpl hrb
          go_wp2_with fail
          refine (sync5_nil wr).mono ?_
          rintro e w9 ⟨rfl, hw⟩
          subst hw
          go_wp2_with fail
          refine (crash5_nil n wr).mono ?_
          rintro e w9 ⟨rfl, hw⟩
          subst hw
          go_wp2_with fail
          refine (lookup5_nil nm wr).mono ?_
          rintro e w9 ⟨rfl, hw⟩
          subst hw
          go_wp2_with fail
          refine (names5_nil wr).mono ?_
          rintro e w9 ⟨rfl, hw⟩
          subst hw
          go_wp2_with fail
          refine (linked5_nil n wr).mono ?_
          rintro e w9 ⟨rfl, hw⟩
          subst hw
          go_wp2_with fail
          refine (waiting5_nil wr).mono ?_
          rintro e w9 ⟨rfl, hw⟩
          subst hw
          go_wp2_with fail
          refine (create5_nil nm n wr).mono ?_
          rintro e w9 ⟨rfl, hw⟩
          subst hw
          go_wp2_with fail
          refine (rename5_nil nm nm wr).mono ?_
          rintro e w9 ⟨rfl, hw⟩
          subst hw
          go_wp2_with fail
          refine (remove5_nil nm wr).mono ?_
          rintro e w9 ⟨rfl, hw⟩
          subst hw
          cases hq : hasK Nt.nm s.now nm with
          | false =>
            have e1 := idAt_not hq
            have e2 := findN_not hq
            rw [e1, hq] at HLK
            rw [e2] at HFD
            clear e1 e2 hq hri
            go_wp2_with fail
            refine HLK.out.mono ?_
            rintro e w4 ⟨rfl, hw⟩
            subst hw
            go_wp2_with fail
            refine HFD.out.mono ?_
            rintro e w4 ⟨rfl, hw⟩
            subst hw
            go_wp2_with fail
            refine HLI.out.mono ?_
            rintro e w5 ⟨rfl, hb5⟩
            have HB5 := Lib.hid (HGO.out.bel.trans (hb5.mono hBs))
            have HR5 := Lib.hid (HRL.out w5 hb5)
            clear hb5
            go_wp2_with fail
            refine HR5.out.mono ?_
            rintro e w6 ⟨rfl, hw⟩
            subst hw
            go_wp2_with fail
            refine (HLV.out _ HB5.out).mono ?_
            rintro e wL ⟨rfl, hbL⟩
            go_wp2
            go_ret
            exact ⟨rfl, by rw [HBB.out]; exact hbL⟩
          | true =>
            obtain ⟨y, hy, hyn⟩ := hasK_there hri hq
            have e1 := idAt_pos hri hy hyn
            have e2 := findN_has hq
            rw [e1, hq] at HLK
            obtain ⟨p, hp⟩ : ∃ p, posK Nt.nm s.now nm = p := ⟨_, rfl⟩
            rw [e2, hp] at HFD
            rw [hp] at hy
            have hpl := (List.getElem?_eq_some_iff.1 hy).1
            obtain ⟨b', o, rfl, _, hc⟩ := HNC.out (by rw [nt_len]; omega)
            obtain ⟨d0, d1⟩ := nt_at hc hy
            have hp0 : (0 : Int) ≤ (p : Int) := by omega
            have hpi : (p : Int) < (s.now.length : Int) := by omega
            clear e1 e2 hq hri hp hy hyn hc
            go_wp2_with fail
            refine HLK.out.mono ?_
            rintro e w4 ⟨rfl, hw⟩
            subst hw
            go_wp2_with fail
            refine HFD.out.mono ?_
            rintro e w4 ⟨rfl, hw⟩
            subst hw
            go_wp2_with fail
            refine HLI.out.mono ?_
            rintro e w5 ⟨rfl, hb5⟩
            have HB5 := Lib.hid (HGO.out.bel.trans (hb5.mono hBs))
            have HR5 := Lib.hid (HRL.out w5 hb5)
            clear hb5
            go_wp2_with fail
            refine HR5.out.mono ?_
            rintro e w6 ⟨rfl, hw⟩
            subst hw
            go_wp2_with fail
            refine (HLV.out _ HB5.out).mono ?_
            rintro e wL ⟨rfl, hbL⟩
            go_wp2
            go_ret
            exact ⟨rfl, by rw [HBB.out]; exact hbL⟩
theorem look5_in (a0 : Option Addr) (len0 cap0 : Nat) (a1 : ByteArray) (a2 : Int) (w : World) (w0 : Lies w (.slice op5Sh) [.slice a0 len0 cap0]) : Calls Try.prog 4 #[.slice a0 len0 cap0, .string a1, .int .i64 a2] w fun e w' => e = .returned (.bool true) ∧ Below w.heap.size w w' := by
  obtain ⟨xs, hl, hc, hn⟩ := ops5_in w0
  exact look5_any a0 len0 cap0 xs a1 a2 w hl hc hn
end Go.Proofs.Ytbfaefnlhcdnhaa
