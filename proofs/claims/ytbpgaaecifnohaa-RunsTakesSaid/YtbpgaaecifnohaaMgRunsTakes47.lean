/- Layer 9: a table is taken. -/
import Derived.Test.YtbpgaaecifnohaaMgRunsTakes46
import Derived.Test.YtbpgaaecifnohaaMgRunsTakesSRnRJ
import Derived.Test.YtbpgaaecifnohaaMgRunsTakesSRnRx
import Derived.Test.YtbpgaaecifnohaaMgRunsTakes44
namespace Go.Proofs.Ytbpgaaecifnohaa
open Go.RowKit BitsP

theorem own_leT {w : World} {base base' : Nat} {e : TypeId} {size n : Nat} {v : Value} {xs : List Value} (h : w.ownsRow base e size v n xs) (hb : base' ≤ base) : w.ownsRow base' e size v n xs := by
  obtain ⟨h1, h2⟩ := h
  refine ⟨h1, ?_⟩
  rcases h2 with h2 | ⟨g, c, cur, hv, hg, h3⟩
  · exact .inl h2
  · exact .inr ⟨g, c, cur, hv, Nat.le_trans hb hg, h3⟩
theorem nCs_one (ns : List Nat) : ∀ u ∈ nCs ns, u.oneCell' = true := fun u hu => by
  obtain ⟨n, _, rfl⟩ := List.mem_map.1 hu
  rfl
theorem rntake_nil (w : World) : Calls Try.prog 14 #[.pointer none] w fun e w' => e = .returned (.tuple #[.slice none 0 0, .int .i64 1]) ∧ w = w' := by
  go_enter Try.func14, Try.ntmps14
  go_wp2
  go_ret2
  exact ⟨rfl, rfl⟩
theorem LCa.keep2 {w w' : World} {n g : Nat} {zs : List Int} {S : Nat → Prop} (h : LCa w n g zs) (hm : Mod S w w') (hS : ∀ k, S k → k < n ∨ g < k) : LCa w' n g zs := by
  obtain ⟨A1, A2, A3, c1, c2, c3, m, hcb, hmx, h1, h2, h3, hg, ha⟩ := h
  have hgl := cb_lt hcb
  have key : ∀ {A : Option Addr} {xs : List Value}, (∀ a, A = some a → n ≤ a.block) → Cells w g A xs → Cells w' g A xs := fun hA hc hp => by
    obtain ⟨b, o, e, hb, hcc⟩ := hc hp
    have hnb := hA _ e
    exact ⟨b, o, e, hb, fun j u hj => (World.cell?_of_block (a := ⟨b, o + j, none⟩) (hm.block b (by omega) (fun hs => by have := hS b hs; dsimp only at hnb; omega))).trans (hcc j u hj)⟩
  exact ⟨A1, A2, A3, c1, c2, c3, m, hm.keep hcb (fun hs => by have := hS g hs; omega), hmx, key (fun a e => ha a (.inl e)) h1, key (fun a e => ha a (.inr (.inl e))) h2, key (fun a e => ha a (.inr (.inr e))) h3, hg, ha⟩
/-- What the loop keeps: the lengths, the reader, the code. -/
structure TkI (w W : World) (r base B : Nat) (S : Nat → Prop) (bs : List UInt8) (p g : Nat) (zs : List Int) (v : Value) (ls : List Nat) : Prop where
  row : W.ownsRow B 3 1 v ls.length (nCs ls)
  rd : RdS W r base S bs p
  mod : Mod (oneB r) w W
  code : LCa W w.heap.size g zs
  big : B ≤ W.heap.size
section
variable {w W W' : World} {r base B p p' g : Nat} {S : Nat → Prop} {bs : List UInt8} {zs : List Int} {v v' : Value} {ls ls' : List Nat}
theorem TkI.part (h : TkI w W r base B S bs p g zs v ls) (hr : r < w.heap.size) (hB : w.heap.size ≤ B) (hm : Mod (oneB r) W W') (hrd : RdS W' r base S bs p') : TkI w W' r base B S bs p' g zs v ls :=
  ⟨own_keep h.row hm (fun k hk hs => by have h2 : k = r := hs; have := own_base h.row k hk; omega), hrd, h.mod.then_ hm, h.code.keep2 hm (fun k hs => by have h2 : k = r := hs; omega), Nat.le_trans h.big hm.size⟩
theorem TkI.below (h : TkI w W r base B S bs p g zs v ls) (hb : Below W.heap.size W W') : TkI w W' r base B S bs p g zs v ls :=
  ⟨own_keep h.row (Mod.of_below hb) (fun _ _ h => h), h.rd.keep (Mod.of_below hb) (fun _ _ h => h), h.mod.then_ ((Mod.of_below hb).mono fun _ h => h.elim), h.code.keep2 (Mod.of_below hb) (fun _ h => h.elim), Nat.le_trans h.big hb.size⟩
theorem TkI.app {m : Nat} {xs : List Value} (h : TkI w W r base B S bs p g zs v ls) (hSL : ∀ k, S k → k < w.heap.size) (hB : w.heap.size ≤ B) (hg : g < B) (ha : App W B 3 1 v m xs W' v') (hm : m = ls'.length) (hx : xs = nCs ls') : TkI w W' r base B S bs p g zs v' ls' := by
  subst hm hx
  exact ⟨ha.own, h.rd.keep (Mod.of_app ha) (fun k hk hs => by have := hSL k hk; have := own_base h.row k hs; omega), h.mod.trans (Mod.of_app ha) (fun k hk => .inr (by have := own_base h.row k hk; omega)), h.code.keep2 (Mod.of_app ha) (fun k hk => .inr (by have := own_base h.row k hk; omega)), Nat.le_trans h.big (Mod.of_app ha).size⟩
end
set_option maxRecDepth 100000 in
set_option maxHeartbeats 2000000 in
theorem rntake_any (F : List Int → List Bool → Int × Int × Nat) (hF : FunT F) (r base : Nat) (S : Nat → Prop) (bs : List UInt8) (p : Nat) (w : World) (hrd : RdS w r base S bs p) (hbl : bs.length ≤ 1000000) :
    Calls Try.prog 14 #[.pointer (some ⟨r, 0, none⟩)] w
      fun e w' => ∃ A c p', e = .returned (.tuple #[.slice A (tkF F (unpack bs) p).2.1.length c, .int .i64 (tkF F (unpack bs) p).1]) ∧ w'.ownsRow w.heap.size 3 1 (.slice A (tkF F (unpack bs) p).2.1.length c) (tkF F (unpack bs) p).2.1.length (nCs (tkF F (unpack bs) p).2.1) ∧ RdS w' r base S bs p' ∧ ((tkF F (unpack bs) p).1 = 0 → p' = (tkF F (unpack bs) p).2.2) ∧ Mod (oneB r) w w' := by
  obtain ⟨hrl, hp8, hSr⟩ := rd_low hrd
  have HT := Lib.hid (rtake_any r base S bs p 9 w hrd (by omega) (by omega) (by omega))
  rw [show cnt 9 = 9 from rfl] at HT
  have HRD := Lib.hid hrd
  have HSL : Hid (∀ k, S k → k < w.heap.size) := hrd.lt
  have HBACK : Hid (∀ (e : Ending) (w' : World) (t : Int × List Nat × Nat), tkF F (unpack bs) p = t → (∃ A c p', e = .returned (.tuple #[.slice A t.2.1.length c, .int .i64 t.1]) ∧ w'.ownsRow w.heap.size 3 1 (.slice A t.2.1.length c) t.2.1.length (nCs t.2.1) ∧ RdS w' r base S bs p' ∧ (t.1 = 0 → p' = t.2.2) ∧ Mod (oneB r) w w') →
    ∃ A c p', e = .returned (.tuple #[.slice A (tkF F (unpack bs) p).2.1.length c, .int .i64 (tkF F (unpack bs) p).1]) ∧ w'.ownsRow w.heap.size 3 1 (.slice A (tkF F (unpack bs) p).2.1.length c) (tkF F (unpack bs) p).2.1.length (nCs (tkF F (unpack bs) p).2.1) ∧ RdS w' r base S bs p' ∧ ((tkF F (unpack bs) p).1 = 0 → p' = (tkF F (unpack bs) p).2.2) ∧ Mod (oneB r) w w') := fun e w' t ht h => by rw [ht]; exact h
  have HERR : Hid (∀ (e : Ending) (w' : World) (er : Int) (p' : Nat), e = .returned (.tuple #[.slice none 0 0, .int .i64 er]) → er ≠ 0 → tkF F (unpack bs) p = (er, [], 0) → RdS w' r base S bs p' → Mod (oneB r) w w' → _) := fun e w' er p' he hne ht hr hm => HBACK.out e w' _ ht ⟨none, 0, p', he, World.ownsRow_nil _ _ _ _, hr, fun h => absurd h hne, hm⟩
  have hLl := unpack_length bs
  obtain ⟨L, hL⟩ : ∃ L, unpack bs = L := ⟨_, rfl⟩
  have HL := Lib.hid hL
  rw [hL] at hLl
  clear hrd HBACK
  go_enter Try.func14, Try.ntmps14
  by_cases h9 : p + 9 ≤ 8 * bs.length
  · rw [(fits_yes h9).1, (fits_yes h9).2, numA_takes h9, hL] at HT
    have hn512 := numA_lt L p 9
    obtain ⟨n, hn⟩ : ∃ n, numA L p 9 = n := ⟨_, rfl⟩
    have HN := Lib.hid hn
    rw [hn] at HT hn512
    have hn512' : n < 512 := hn512
    clear hn hn512
    by_cases hbad : n = 0 ∨ 320 < n
    · have HTK : Hid (tkF F (unpack bs) p = (5, [], 0)) := by show _ = _; rw [hL, tkF, if_neg (by omega), HN.out, if_pos hbad]
      clear hL
      rcases hbad with h0 | h0
      · subst h0
        go_wp2_with (go_at_call 22; refine HT.out.mono ?_; rintro e w2 ⟨rfl, hrd2, hm2⟩; have HR2 := Lib.hid hrd2; have HM2 := Lib.hid hm2; clear hrd2 hm2)
        refine bodyPost_ret (results_tmp2 rfl _ _ _) rfl (HERR.out _ _ 5 _ rfl (by decide) HTK.out HR2.out HM2.out)
      · have t1 : ((n : Int) == 0) = false := by simp; omega
        have t2 : decide ((320 : Int) < (n : Int)) = true := decide_eq_true (by omega)
        go_wp2_with (go_at_call 22; refine HT.out.mono ?_; rintro e w2 ⟨rfl, hrd2, hm2⟩; have HR2 := Lib.hid hrd2; have HM2 := Lib.hid hm2; clear hrd2 hm2)
        refine bodyPost_ret (results_tmp2 rfl _ _ _) rfl (HERR.out _ _ 5 _ rfl (by decide) HTK.out HR2.out HM2.out)
    · have t1 : ((n : Int) == 0) = false := by simp; omega
      have t2 : decide ((320 : Int) < (n : Int)) = false := decide_eq_false (by omega)
      go_wp2_with (first
        | (go_at_call 22; refine HT.out.mono ?_; rintro e w2 ⟨rfl, hrd2, hm2⟩; have HR2 := Lib.hid hrd2; have HM2 := Lib.hid hm2; clear hrd2 hm2))
      refine (rtcode_any r base S bs (p + 9) w2 HR2.out hbl).mono ?_
      rintro e w3 ⟨p3, g, hrd3, hm3, h3⟩
      have HR3 := Lib.hid hrd3
      have HM3 := Lib.hid (HM2.out.then_ hm3)
      clear hrd3 hm3
      rw [hL] at h3
      obtain ⟨zs, hzs⟩ : ∃ zs : List Int, ((lensA L (p + 9) 19).map fun n : Nat => (n : Int)) = zs := ⟨_, rfl⟩
      rw [hzs] at h3
      have hS2 := HM2.out.size
      rcases h3 with ⟨hno, rfl⟩ | ⟨hy, hca, rfl⟩ | ⟨hy, hca, rfl, rfl, hlc⟩
      · have HTK : Hid (tkF F (unpack bs) p = (2, [], 0)) := by show _ = _; rw [hL, tkF, if_neg (by omega), HN.out, if_neg hbad, if_pos (by omega)]
        clear hL hno hbad hzs
        go_wp2
        refine bodyPost_ret (results_tmp2 rfl _ _ _) rfl (HERR.out _ _ 2 _ rfl (by decide) HTK.out HR3.out HM3.out)
      · have HTK : Hid (tkF F (unpack bs) p = (13, [], 0)) := by show _ = _; rw [hL, tkF, if_neg (by omega), HN.out, if_neg hbad, if_neg (by omega), hzs, if_pos hca]
        clear hL hbad hzs hca
        go_wp2
        refine bodyPost_ret (results_tmp2 rfl _ _ _) rfl (HERR.out _ _ 13 _ rfl (by decide) HTK.out HR3.out HM3.out)
      · have HTK : Hid (tkF F (unpack bs) p = lensF F zs n L n [] (p + 85)) := by show _ = _; rw [hL, tkF, if_neg (by omega), HN.out, if_neg hbad, if_neg (by omega), hzs, if_neg (by rw [hca]; simp)]
        have HCA := Lib.hid hca
        have HG : Hid (g < w3.heap.size) := by obtain ⟨_, _, _, _, _, _, _, h, _⟩ := hlc; exact cb_lt h
        have HI3 : Hid (TkI w w3 r base w3.heap.size S bs (p + 9 + 76) g zs (.slice none 0 0) []) := ⟨World.ownsRow_nil _ _ _ _, HR3.out, HM3.out, hlc.lower hS2, Nat.le_refl _⟩
        have HB3 : Hid (w.heap.size ≤ w3.heap.size) := HM3.out.size
        have hn320 : n ≤ 320 := by omega
        clear hbad hca hlc hzs HR3 HM3 hy
        go_wp2
        go_loopg [8] n (fun gk v wr => ∃ (ls : List Nat) (p' : Nat), lensF F zs n L n [] (p + 85) = lensF F zs n L gk ls p' ∧ n ≤ ls.length + gk ∧ ls.length ≤ n ∧ TkI w wr r base w3.heap.size S bs p' g zs v ls)
        case atStart => exact ⟨[], p + 9 + 76, rfl, by simp, by simp, HI3.out⟩
        case round =>
          obtain ⟨ls, p', hle, hfu, hln, hti⟩ := hrel
          obtain ⟨Av, cv, rfl⟩ := own_form hti.row
          have HLE := Lib.hid hle
          have HTI := Lib.hid hti
          clear hle hti HI3
          obtain ⟨ll, hll⟩ : ∃ ll, ls.length = ll := ⟨_, rfl⟩
          have HLL := Lib.hid hll
          rw [hll] at hfu hln ⊢
          by_cases hlt : ll < n
          · obtain ⟨j, rfl⟩ : ∃ j, gk = j + 1 := ⟨gk - 1, by omega⟩
            have HP := Lib.hid (rtpart_any F hF g r base zs S bs p' wr HCA.out HTI.out.code.lc HTI.out.rd hbl)
            have HPM := Lib.hid (partF_many F zs (L.drop p'))
            have HLF : Hid (lensF F zs n L (j + 1) ls p' = if (partF F zs (L.drop p')).1 ≠ 0 then ((partF F zs (L.drop p')).1, [], 0) else if (partF F zs (L.drop p')).2.1 = 16 ∧ ls = [] then (3, [], 0) else if n < ls.length + (partF F zs (L.drop p')).2.2.1 then (3, [], 0) else lensF F zs n L j (ls ++ List.replicate (partF F zs (L.drop p')).2.2.1 (saysP ls (partF F zs (L.drop p')).2.1)) (p' + (partF F zs (L.drop p')).2.2.2)) := by
              show _ = _
              rw [lensF, if_neg (by omega)]
            rw [hL] at HP
            obtain ⟨P, hP⟩ : ∃ P, partF F zs (L.drop p') = P := ⟨_, rfl⟩
            rw [hP] at HP HPM HLF
            obtain ⟨er, num, many, on⟩ := P
            dsimp only at HP HPM HLF
            clear hP
            by_cases her : er = 0
            · subst her
              obtain ⟨hm1, hm4⟩ := HPM.out rfl
              rw [if_neg (by simp)] at HLF
              by_cases h16 : num = 16 ∧ ls = []
              · rw [if_pos h16] at HLF
                obtain ⟨rfl, rfl⟩ := h16
                obtain rfl : 0 = ll := HLL.out
                have HFO := Lib.hid (fun W => follow_no cv many Av W)
                clear hfu
                go_wp2_with (first
                  | (go_at_call 37; refine HP.out.mono ?_; rintro e w4 ⟨p4, rfl, hrd4, hpe, hm4'⟩; have HI5 := Lib.hid (fun o => (HTI.out.part hrl HB3.out hm4' hrd4).below ((Below.refl _ w4).alloc (Nat.le_refl _) o)); clear hrd4 hpe hm4')
                  | (go_at_call 38; refine (HFO.out _).mono ?_; rintro e w6 ⟨rfl, hb6⟩; have HI6 := Lib.hid ((HI5.out _).below hb6); clear hb6))
                refine bodyPost_ret (results_tmp2 rfl _ _ _) rfl (HERR.out _ _ 3 _ rfl (by decide) (by rw [HTK.out, HLE.out, HLF.out]) HI6.out.rd HI6.out.mod)
              · rw [if_neg h16] at HLF
                have hsn : num = 16 → 0 < ll := fun h => by
                  rcases Nat.eq_zero_or_pos ll with h0 | h0
                  · exact absurd ⟨h, List.eq_nil_of_length_eq_zero (by rw [HLL.out]; exact h0)⟩ h16
                  · exact h0
                have HFO : Hid (∀ W : World, W.ownsRow w3.heap.size 3 1 (.slice Av ls.length cv) ls.length (nCs ls) → _) := fun W hW => follow_any Av ll cv ls num many W.heap.size W HLL.out (by omega) (Cells.of_own hW) (Nat.le_refl _) hsn hm1 hm4
                rw [HLL.out] at HLF
                by_cases hbig : n < ll + many
                · rw [if_pos hbig] at HLF
                  clear hfu h16 hsn
                  go_wp2_with (first
                    | (go_at_call 37; refine HP.out.mono ?_; rintro e w4 ⟨p4, rfl, hrd4, hpe, hm4'⟩; have HI5 := Lib.hid (fun o => (HTI.out.part hrl HB3.out hm4' hrd4).below ((Below.refl _ w4).alloc (Nat.le_refl _) o)); clear hrd4 hpe hm4')
                    | (go_at_call 38; refine (HFO.out _ (HI5.out _).row).mono ?_; rintro e w6 ⟨g6, rfl, hg6, hn6, hb6⟩; have HI6 := Lib.hid ((HI5.out _).below hb6); clear hb6 hn6 hg6))
                  refine bodyPost_ret (results_tmp2 rfl _ _ _) rfl (HERR.out _ _ 3 _ rfl (by decide) (by rw [HTK.out, HLE.out, HLF.out]) HI6.out.rd HI6.out.mod)
                · rw [if_neg hbig] at HLF
                  obtain ⟨x, hx⟩ : ∃ x, saysP ls num = x := ⟨_, rfl⟩
                  rw [hx] at HLF HFO
                  have HNC : Hid (nCs (ls ++ List.replicate many x) = nCs ls ++ nCs (List.replicate many x)) := by show _ = _; simp [nCs]
                  have HNL : Hid ((ls ++ List.replicate many x).length = ll + many) := by show _ = _; rw [List.length_append, HLL.out, List.length_replicate]
                  have hadd : ll + many ≤ n := by omega
                  have HFU := Lib.hid hfu
                  clear h16 hsn hx hfu
                  go_wp2_with (first
                    | (go_at_call 37; refine HP.out.mono ?_; rintro e w4 ⟨p4, rfl, hrd4, hpe, hm4'⟩; have HI5 := Lib.hid (fun o => (HTI.out.part hrl HB3.out hm4' hrd4).below ((Below.refl _ w4).alloc (Nat.le_refl _) o)); have HPE := Lib.hid (hpe rfl); clear hrd4 hpe hm4')
                    | (go_at_call 38; refine (HFO.out _ (HI5.out _).row).mono ?_; rintro e w6 ⟨g6, rfl, hg6, hn6, hb6⟩; have HI6 := Lib.hid ((HI5.out _).below hb6); have HN6 := Lib.hid hn6; clear hb6 hn6 hg6)
                    | (at_builtin; refine wpList_app w6 intElem rfl (.tmp 66) (.tmp 67) rfl w3.heap.size (.slice Av ll cv) ll (nCs ls) rfl (by have h := HI6.out.row; rw [HLL.out] at h; exact h) w6.heap.size (some ⟨g6, 0, none⟩) many many (nCs (List.replicate many x)) rfl (by rw [nCs_len, List.length_replicate, Nat.mul_one]) (NB.cellsT HN6.out) (nCs_one _) (by unfold maxLen; omega) (by omega) HI6.out.big ?_; intro A7 c7 w7 hA; have HI7 := Lib.hid (HI6.out.app (ls' := ls ++ List.replicate many x) HSL.out HB3.out HG.out (by rw [HLL.out]; exact hA) HNL.out.symm HNC.out.symm); clear hA))
                  go_roundg j
                  case measure => omega
                  case rel => exact ⟨ls ++ List.replicate many x, p' + on, by rw [HLE.out, HLF.out], by rw [HNL.out]; have := HFU.out; omega, by rw [HNL.out]; omega, by rw [← HPE.out]; exact HI7.out⟩
            · rw [if_pos her] at HLF
              have t3 : (er != 0) = true := by simpa using her
              have HER := Lib.hid her
              clear hfu her
              go_wp2_with (go_at_call 37; refine HP.out.mono ?_; rintro e w4 ⟨p4, rfl, hrd4, hpe, hm4'⟩; have HI5 := Lib.hid (fun o => (HTI.out.part hrl HB3.out hm4' hrd4).below ((Below.refl _ w4).alloc (Nat.le_refl _) o)); clear hrd4 hpe hm4')
              refine bodyPost_ret (results_tmp2 rfl _ _ _) rfl (HERR.out _ _ er _ rfl HER.out (by rw [HTK.out, HLE.out, HLF.out]) (HI5.out _).rd (HI5.out _).mod)
          · have HE : Hid (tkF F (unpack bs) p = (0, ls, p')) := by
              show _ = _
              rw [HTK.out, HLE.out]
              cases gk with
              | zero => rfl
              | succ j => rw [lensF, if_pos (by omega)]
            have HHH := Lib.hid hll
            clear hfu
            go_wp2
            refine bodyPost_ret (results_tmp2 rfl _ _ _) rfl ?_
            rw [HE.out]
            dsimp only
            rw [HLL.out]
            exact ⟨Av, cv, p', rfl, own_leT (by have h := HTI.out.row; rw [HLL.out] at h; exact h) HB3.out, HTI.out.rd, fun _ => rfl, HTI.out.mod⟩
  · rw [(fits_no h9).1, (fits_no h9).2] at HT
    have HTK : Hid (tkF F (unpack bs) p = (2, [], 0)) := by show _ = _; rw [hL, tkF, if_pos (by omega)]
    clear hL
    go_wp2_with (go_at_call 22; refine HT.out.mono ?_; rintro e w2 ⟨rfl, hrd2, hm2⟩; have HR2 := Lib.hid hrd2; have HM2 := Lib.hid hm2; clear hrd2 hm2)
    refine bodyPost_ret (results_tmp2 rfl _ _ _) rfl (HERR.out _ _ 2 _ rfl (by decide) HTK.out HR2.out HM2.out)
end Go.Proofs.Ytbpgaaecifnohaa
/- Layer 9: the reference's Take. -/
namespace Go.Proofs.Ytbpgaaecifnohaa
open Go.RowKit BitsP

set_option maxRecDepth 100000 in
set_option maxHeartbeats 4000000 in
theorem rrtake_any (F : List Int → List Bool → Int × Int × Nat) (hF : FunT F) (A : Option Addr) (l c : Nat) (L : List Bool) (p : Nat) (w : World) (hl : L.length = l) (hm : l ≤ 1000000) (hlc : l ≤ c) (hb : Bytes w w.heap.size A (bitBytes L)) (hp : p ≤ l) :
    Calls Try.prog 15 #[.slice A l c, .int .i64 (p : Int)] w
      fun e w' => ∃ A c, e = .returned (.tuple #[.slice A (tkF F L p).2.1.length c, .int .i64 ((tkF F L p).2.2 : Nat), .int .i64 (tkF F L p).1]) ∧ w'.ownsRow w.heap.size 3 1 (.slice A (tkF F L p).2.1.length c) (tkF F L p).2.1.length (nCs (tkF F L p).2.1) ∧ Below w.heap.size w w' := by
  have HBACK : Hid (∀ (e : Ending) (w' : World) (t : Int × List Nat × Nat), tkF F L p = t → (∃ A c, e = .returned (.tuple #[.slice A t.2.1.length c, .int .i64 (t.2.2 : Nat), .int .i64 t.1]) ∧ w'.ownsRow w.heap.size 3 1 (.slice A t.2.1.length c) t.2.1.length (nCs t.2.1) ∧ Below w.heap.size w w') →
    ∃ A c, e = .returned (.tuple #[.slice A (tkF F L p).2.1.length c, .int .i64 ((tkF F L p).2.2 : Nat), .int .i64 (tkF F L p).1]) ∧ w'.ownsRow w.heap.size 3 1 (.slice A (tkF F L p).2.1.length c) (tkF F L p).2.1.length (nCs (tkF F L p).2.1) ∧ Below w.heap.size w w') := fun e w' t ht h => by rw [ht]; exact h
  have HERR : Hid (∀ (e : Ending) (w' : World) (er : Int), e = .returned (.tuple #[.slice none 0 0, .int .i64 0, .int .i64 er]) → tkF F L p = (er, [], 0) → Below w.heap.size w w' → _) := fun e w' er he ht hr => HBACK.out e w' _ ht ⟨none, 0, he, World.ownsRow_nil _ _ _ _, hr⟩
  have HNUM : Hid (∀ (W : World) (a b : Nat), Below w.heap.size w W → a ≤ 2000000 → b ≤ 32 → Calls Try.prog 39 #[.slice A l c, .int .i64 (a : Int), .int .i64 (b : Int)] W fun e w' => e = .returned (.int .u32 (numA L a b : Nat)) ∧ W = w') := fun W a b hW ha hb32 => by
    have h := refNumber_any A l c w.heap.size L a (b : Int) W hl (by omega) (by omega) (by omega) (by omega) (hb.below hW (Nat.le_refl _))
    rw [cnt_nat hb32] at h
    exact h
  have mk0 : ∀ W, (Instr.makeSlice 22 (.int .i64 19) (.int .i64 19)).run Try.prog W = .ok (.slice (some ⟨W.heap.size, 0, none⟩) 19 19) (W.alloc (.cells (madeCells #[.int .i64 0] 19) 3)) := fun W => make_ints 19 (by omega) W
  have HLL := Lib.hid hl
  have HBY : Hid (∀ W, Below w.heap.size w W → Bytes W w.heap.size A (bitBytes L)) := fun W hW => hb.below hW (Nat.le_refl _)
  clear hb hl HBACK
  go_enter Try.func15, Try.ntmps15
  by_cases h9 : l < p + 9
  · have HTK : Hid (tkF F L p = (2, [], 0)) := by show _ = _; rw [tkF, if_pos (by rw [HLL.out]; exact h9)]
    have t0 : (l : Int) - (p : Int) < 9 := by omega
    go_wp2
    refine bodyPost_ret (results_tmp3 rfl _ _ _) rfl (HERR.out _ _ 2 rfl HTK.out (Below.refl _ _))
  have t0 : decide ((l : Int) - (p : Int) < 9) = false := decide_eq_false (by omega)
  obtain ⟨n, hn⟩ : ∃ n, numA L p 9 = n := ⟨_, rfl⟩
  have HN := Lib.hid hn
  have hn512 : n < 512 := by rw [← hn]; exact numA_lt L p 9
  have HN9 := Lib.hid (fun W hW => HNUM.out W p 9 hW (by omega) (by omega))
  rw [hn] at HN9
  clear hn
  by_cases hbad : n = 0 ∨ 320 < n
  · have HTK : Hid (tkF F L p = (5, [], 0)) := by show _ = _; rw [tkF, if_neg (by rw [HLL.out]; exact h9), HN.out, if_pos hbad]
    clear h9
    rcases hbad with h0 | h0
    · subst h0
      go_wp2_with (go_at_call 39; refine (HN9.out _ (Below.refl _ _)).mono ?_; rintro e w2 ⟨rfl, rfl⟩)
      refine bodyPost_ret (results_tmp3 rfl _ _ _) rfl (HERR.out _ _ 5 rfl HTK.out (Below.refl _ _))
    · have t1 : decide ((n : Int) < 1) = false := decide_eq_false (by omega)
      have t2 : decide ((320 : Int) < (n : Int)) = true := decide_eq_true (by omega)
      go_wp2_with (go_at_call 39; refine (HN9.out _ (Below.refl _ _)).mono ?_; rintro e w2 ⟨rfl, rfl⟩)
      refine bodyPost_ret (results_tmp3 rfl _ _ _) rfl (HERR.out _ _ 5 rfl HTK.out (Below.refl _ _))
  have t1 : decide ((n : Int) < 1) = false := decide_eq_false (by omega)
  have t2 : decide ((320 : Int) < (n : Int)) = false := decide_eq_false (by omega)
  by_cases h85 : l < p + 85
  · have HTK : Hid (tkF F L p = (2, [], 0)) := by show _ = _; rw [tkF, if_neg (by rw [HLL.out]; exact h9), HN.out, if_neg hbad, if_pos (by rw [HLL.out]; exact h85)]
    have t3 : decide ((l : Int) - ((p : Int) + 9) < 76) = true := decide_eq_true (by omega)
    clear h9 hbad h85
    go_wp2_with (go_at_call 39; refine (HN9.out _ (Below.refl _ _)).mono ?_; rintro e w2 ⟨rfl, rfl⟩)
    refine bodyPost_ret (results_tmp3 rfl _ _ _) rfl (HERR.out _ _ 2 rfl HTK.out (Below.refl _ _))
  have t3 : decide ((l : Int) - ((p : Int) + 9) < 76) = false := decide_eq_false (by omega)
  go_wp2_with (go_at_call 39; refine (HN9.out _ (Below.refl _ _)).mono ?_; rintro e w2 ⟨rfl, rfl⟩)
  obtain ⟨W1, hW1⟩ : ∃ W1, w.alloc (.cells (madeCells #[.int .i64 0] 19) 3) = W1 := ⟨_, rfl⟩
  have HB1 : Hid (Below w.heap.size w W1) := by show Below _ _ _; rw [← hW1]; exact (Below.refl _ w).alloc (Nat.le_refl _) _
  have HN1 : Hid (NB W1 w.heap.size (lensA L (p + 9) 0 ++ List.replicate 19 0)) := by show NB _ _ _; rw [← hW1]; exact wei_made w 19
  rw [hW1]
  clear hW1 mk0 t0 t3 HN9
  go_loopg [1, 9] 19 (fun gk a i wr => ∃ k : Nat, k + gk = 19 ∧ i = .int .i64 (k : Int) ∧ a = .int .i64 ((p + 9 + 4 * k : Nat) : Int) ∧ NB wr w.heap.size (lensA L (p + 9) k ++ List.replicate gk 0) ∧ Below w.heap.size w wr)
  case atStart => exact ⟨0, by omega, rfl, by go_num, HN1.out, HB1.out⟩
  case round =>
    obtain ⟨k, hk, rfl, rfl, hnb, hbel⟩ := hrel
    have HNB := Lib.hid hnb
    have HBEL := Lib.hid hbel
    clear hnb hbel HN1 HB1
    by_cases hk19 : k < 19
    · have HT2 := Lib.hid (HNUM.out wr (p + 9 + 4 * k) 4 HBEL.out (by omega) (by omega))
      have hy := numA_lt L (p + 9 + 4 * k) 4
      have HUP : Hid (lensA L (p + 9) (k + 1) ++ List.replicate (gk - 1) 0 = (lensA L (p + 9) k ++ List.replicate gk 0).set k (numA L (p + 9 + 4 * k) 4)) := by
        show _ = _
        have h := set_pad (lensA L (p + 9) k) (gk - 1) (numA L (p + 9 + 4 * k) 4)
        rw [lensA_len, show gk - 1 + 1 = gk by omega] at h
        rw [h, lensA_up]
      obtain ⟨y, hyy⟩ : ∃ y, numA L (p + 9 + 4 * k) 4 = y := ⟨_, rfl⟩
      rw [hyy] at HT2 hy HUP
      have hy16 : y < 16 := hy
      have f0 : wr.frozen? ⟨w.heap.size, k, none⟩ = false := HNB.out.free
      have q0 : wr.cell? ⟨w.heap.size, k, none⟩ = some (.int .i64 ((0 : Nat) : Int)) := HNB.out.cell (by rw [List.getElem?_append_right (by rw [lensA_len]; omega), lensA_len, Nat.sub_self, List.getElem?_replicate, if_pos (by omega)])
      clear hyy hy
      obtain ⟨a, ha⟩ : ∃ a, p + 9 + 4 * k = a := ⟨_, rfl⟩
      have HA4 := Lib.hid ha
      have hal : a ≤ l := by omega
      rw [ha] at HT2 ⊢
      clear ha
      go_wp2_with (go_at_call 39; refine HT2.out.mono ?_; rintro e w2 ⟨rfl, rfl⟩)
      go_roundg (gk - 1)
      case measure => omega
      case rel => exact ⟨k + 1, by omega, by go_num, by have := HA4.out; rw [show p + 9 + 4 * (k + 1) = a + 4 by omega]; go_num, by rw [HUP.out]; exact HNB.out.set k y, HBEL.out.setCell (Nat.le_refl _) _⟩
    · obtain rfl : k = 19 := by omega
      obtain rfl : gk = 0 := by omega
      have HN2 := Lib.hid (show NB wr w.heap.size (lensA L (p + 9) 19) by have h := HNB.out; rw [List.replicate_zero, List.append_nil] at h; exact h)
      obtain ⟨zs, hzs⟩ : ∃ zs : List Int, ((lensA L (p + 9) 19).map fun n : Nat => (n : Int)) = zs := ⟨_, rfl⟩
      have hzl : zs.length = 19 := by rw [← hzs, List.length_map, lensA_len]
      have HC2 : Hid (Cells wr wr.heap.size (some ⟨w.heap.size, 0, none⟩) (zs.map ic)) := by
        show Cells _ _ _ _
        rw [← hzs, nCs_ic]
        exact NB.cellsT HN2.out
      have HRI := Lib.hid (ref8Right_any (some ⟨w.heap.size, 0, none⟩) 19 19 zs wr.heap.size wr hzl (by omega) HC2.out)
      cases hca : caR zs with
      | false =>
        have HTK : Hid (tkF F L p = (13, [], 0)) := by show _ = _; rw [tkF, if_neg (by rw [HLL.out]; exact h9), HN.out, if_neg hbad, if_neg (by rw [HLL.out]; exact h85), hzs, if_pos hca]
        rw [hca] at HRI
        clear h9 hbad h85 hzs hca
        go_wp2_with (go_at_call 40; refine HRI.out.mono ?_; rintro e w2 ⟨rfl, rfl⟩)
        refine bodyPost_ret (results_tmp3 rfl _ _ _) rfl (HERR.out _ _ 13 rfl HTK.out HBEL.out)
      | true =>
        have HTK : Hid (tkF F L p = lensF F zs n L n [] (p + 85)) := by show _ = _; rw [tkF, if_neg (by rw [HLL.out]; exact h9), HN.out, if_neg hbad, if_neg (by rw [HLL.out]; exact h85), hzs, if_neg (by rw [hca]; simp)]
        rw [hca] at HRI
        have HCA := Lib.hid hca
        have HMX := Lib.hid (caR_max hca)
        have HVA := Lib.hid (ref8Values_any (some ⟨w.heap.size, 0, none⟩) 19 19 zs wr.heap.size wr hzl (by omega) HC2.out (Nat.le_refl _))
        have hp85 : p + 85 ≤ l := by omega
        have hn320 : n ≤ 320 := by omega
        clear h9 hbad h85 hzs hca
        go_wp2_with (first
          | (go_at_call 40; refine HRI.out.mono ?_; rintro e w2 ⟨rfl, rfl⟩)
          | (go_at_call 31; refine HVA.out.mono ?_; rintro e w4 ⟨rfl, hi4, hb4⟩; have HI4 := Lib.hid hi4; have HB4 := Lib.hid (HBEL.out.trans (hb4.mono HBEL.out.size)); have HC4 := Lib.hid (HC2.out.below hb4 (Nat.le_refl _)); have HZ4 : Hid (wr.heap.size < w4.heap.size) := ib_lt hi4; clear hi4 hb4))
        obtain ⟨gv, hgv⟩ : ∃ gv, wr.heap.size = gv := ⟨_, rfl⟩
        rw [hgv] at HI4 HC4 HZ4 ⊢
        have hw4s := HB4.out.size
        have hnb4 : w.heap.size < gv := by rw [← hgv]; exact HN2.out.lt
        have HCZ : Hid (∀ W, Below w4.heap.size w4 W → Cells W W.heap.size (some ⟨w.heap.size, 0, none⟩) (zs.map ic)) := fun W hW => (HC4.out.below hW (Nat.le_of_lt HZ4.out)).more (by have := HZ4.out; have := hW.size; omega)
        have HCV : Hid (∀ W, Below w4.heap.size w4 W → Cells W W.heap.size (some ⟨gv, 0, none⟩) ((caV zs).map ic)) := fun W hW => ((ib_cells HI4.out HZ4.out).below hW (Nat.le_refl _)).more hW.size
        have HBYW : Hid (∀ W, Below w4.heap.size w4 W → Bytes W W.heap.size A (bitBytes L)) := fun W hW => by
          have h := HBY.out W (HB4.out.trans (hW.mono hw4s))
          exact h.more (Nat.le_trans hw4s hW.size)
        have HNUW : Hid (∀ (W : World) (a b : Nat), Below w4.heap.size w4 W → a ≤ 2000000 → b ≤ 32 → _) := fun W a b hW ha hb => HNUM.out W a b (HB4.out.trans (hW.mono hw4s)) ha hb
        have HW4 : Hid (Below w.heap.size w w4) := HB4.out
        clear HN2 HC2 HRI HVA HNUM HBY HBEL HNB HI4 HC4 HZ4 HB4 hgv hnb4 hw4s
        go_loopg [1, 11] n (fun gk a v wr => ∃ (ls : List Nat) (p' : Nat), a = .int .i64 (p' : Int) ∧ lensF F zs n L n [] (p + 85) = lensF F zs n L gk ls p' ∧ n ≤ ls.length + gk ∧ ls.length ≤ n ∧ p' ≤ l ∧ wr.ownsRow w4.heap.size 3 1 v ls.length (nCs ls) ∧ Below w4.heap.size w4 wr)
        case atStart => exact ⟨[], p + 85, by go_num, rfl, by simp, by simp, hp85, World.ownsRow_nil _ _ _ _, Below.refl _ _⟩
        case round =>
          obtain ⟨ls, p', rfl, hle, hfu, hln, hpl, hrow, hbel⟩ := hrel
          obtain ⟨Av, cv, rfl⟩ := own_form hrow
          have HLE := Lib.hid hle
          have HBEL := Lib.hid hbel
          obtain ⟨ll, hll⟩ : ∃ ll, ls.length = ll := ⟨_, rfl⟩
          have HLN := Lib.hid hll
          have HROW : Hid (wr.ownsRow w4.heap.size 3 1 (.slice Av ll cv) ll (nCs ls)) := by rw [hll] at hrow; exact hrow
          rw [hll] at hfu hln ⊢
          clear hle hbel hrow hll
          by_cases hlt : ll < n
          · obtain ⟨j, rfl⟩ : ∃ j, gk = j + 1 := ⟨gk - 1, by omega⟩
            have HT8 := Lib.hid (refTake8_any (some ⟨w.heap.size, 0, none⟩) (some ⟨gv, 0, none⟩) A 19 19 19 l c zs L p' wr HCA.out hzl (HCZ.out wr HBEL.out) (HCV.out wr HBEL.out) HLL.out hm hlc (HBYW.out wr HBEL.out) hpl)
            have HLF0 : Hid (∀ P : Int × Nat × Nat × Nat, partF F zs (L.drop p') = P → lensF F zs n L (j + 1) ls p' = if P.1 ≠ 0 then (P.1, [], 0) else if P.2.1 = 16 ∧ ls = [] then (3, [], 0) else if n < ll + P.2.2.1 then (3, [], 0) else lensF F zs n L j (ls ++ List.replicate P.2.2.1 (saysP ls P.2.1)) (p' + P.2.2.2)) := fun P hP => by
              rw [lensF, if_neg (by have := HLN.out; omega), hP, HLN.out]
            go_wp2_with fail
            refine HT8.out.mono ?_
            rintro e w5 ⟨on, s, er, rfl, htk, hb5⟩
            have HB5 := Lib.hid (HBEL.out.trans (hb5.mono HBEL.out.size))
            have HROW5 := Lib.hid (own_keep HROW.out (Mod.of_below hb5) (fun _ _ h => h))
            obtain ⟨mx, hmx⟩ := HMX.out
            have HK := Lib.hid (kindsT hF hmx (htk mx hmx))
            have hUl : (L.drop p').length = l - p' := by rw [List.length_drop, HLL.out]
            have HUL := Lib.hid hUl
            clear hb5 htk hmx HT8 hUl
            rcases HK.out with ⟨rfl, t, rfl, htl, hon, hf⟩ | ⟨hne, rfl, hf⟩
            · have HF := Lib.hid hf
              rw [hzl] at htl
              rw [HUL.out] at hon
              have HEX := Lib.hid (fun W => rextra_any t W)
              obtain ⟨⟨sa, sb⟩, hab⟩ : ∃ ab, spanP t = ab := ⟨_, rfl⟩
              have hsp := spanP_le t
              have hms := mostP_span t
              have HAB := Lib.hid hab
              rw [hab] at HEX hsp hms
              dsimp only at HEX hsp hms
              obtain ⟨q, hq⟩ : ∃ q, p' + on = q := ⟨_, rfl⟩
              have e1 : (p' : Int) + (on : Int) = (q : Int) := by omega
              have HQ := Lib.hid hq
              have hql : q ≤ l := by omega
              clear HK hf hab hq hon
              by_cases hfit : l < q + sb
              · have HLF := HLF0.out (2, 0, 0, 0) (by
                  unfold partF
                  rw [HF.out]
                  dsimp only
                  rw [if_neg (by simp), if_pos (by rw [Int.toNat_natCast, HAB.out, HUL.out]; dsimp only; have := HQ.out; omega)])
                rw [if_pos (by simp)] at HLF
                dsimp only at HLF
                have HLF := Lib.hid HLF
                have t5 : decide ((l : Int) - (q : Int) < (sb : Int)) = true := decide_eq_true (by omega)
                clear hfit hms hfu
                go_wp2_with (go_at_call 34; refine (HEX.out _).mono ?_; rintro e w2 ⟨rfl, rfl⟩)
                refine bodyPost_ret (results_tmp3 rfl _ _ _) rfl (HERR.out _ _ 2 rfl (by rw [HTK.out, HLE.out, HLF.out]) (HW4.out.trans (HB5.out.mono HW4.out.size)))
              · have t5 : decide ((l : Int) - (q : Int) < (sb : Int)) = false := decide_eq_false (by omega)
                obtain ⟨y, hy⟩ : ∃ y, numA L q sb = y := ⟨_, rfl⟩
                have hyl : y < 2 ^ sb := by rw [← hy]; exact numA_lt L q sb
                have HNY : Hid (∀ W, Below w4.heap.size w4 W → _) := fun W hW => HNUW.out W q sb hW (by omega) (by omega)
                rw [hy] at HNY
                obtain ⟨many, hmany⟩ : ∃ many, sa + y = many := ⟨_, rfl⟩
                have e2 : (sa : Int) + (y : Int) = (many : Int) := by omega
                have h7 : 2 ^ sb ≤ 128 := Nat.pow_le_pow_right (n := 2) (by decide) hsp.2.2
                have hmm : sa ≤ many ∧ many ≤ mostP t := by omega
                have hm138 := (mostP_le t).2
                have hmb : many ≤ 138 := by omega
                have HLF := HLF0.out (0, t, many, on + sb) (by
                  unfold partF
                  rw [HF.out]
                  dsimp only
                  rw [if_neg (by simp), if_neg (by rw [Int.toNat_natCast, HAB.out, HUL.out]; dsimp only; have := HQ.out; omega), Int.toNat_natCast, HAB.out, List.drop_drop, HQ.out]
                  dsimp only
                  rw [show num ((L.drop q).take sb) = y from hy, hmany])
                rw [if_neg (by simp)] at HLF
                dsimp only at HLF
                have hyb : y ≤ 128 := by omega
                have HMM : Hid ((spanP t).1 ≤ many ∧ many ≤ mostP t) := by rw [HAB.out]; exact hmm
                have hpn : p' + (on + sb) ≤ l := by have := HQ.out; omega
                have e3 : (q : Int) + (sb : Int) = ((p' + (on + sb) : Nat) : Int) := by have := HQ.out; omega
                clear hy hmany hms hyl hfit hm138 hmm h7 HLF0
                by_cases h16 : t = 16
                · subst h16
                  have hab : ((3, 2) : Nat × Nat) = (sa, sb) := HAB.out
                  obtain ⟨rfl, rfl⟩ : 3 = sa ∧ 2 = sb := by simpa using hab
                  have hmm3 : 3 ≤ many ∧ many ≤ 6 := HMM.out
                  have e2' : (3 : Int) + (y : Int) = (many : Int) := by omega
                  have e3' : (q : Int) + 2 = ((p' + (on + 2) : Nat) : Int) := by omega
                  by_cases hll0 : ll = 0
                  · have hnil : ls = [] := List.eq_nil_of_length_eq_zero (by rw [HLN.out]; exact hll0)
                    subst hll0
                    rw [if_pos ⟨rfl, hnil⟩] at HLF
                    have HLF := Lib.hid HLF
                    have HJ := Lib.hid (fun W : World => rjoin_no W.heap.size 1 many (W.alloc (.cells #[.int .i64 16, .int .i64 (many : Int)] 67)) (by simp) hmm3.1 hmm3.2 (row2_0 W _ _ _) (row2_1 W _ _ _))
                    have t4 : decide ((0 : Int) < ((0 : Nat) : Int)) = false := by simp
                    clear hab hnil hfu
                    go_wp2_with (first
                      | (go_at_call 34; refine (HEX.out _).mono ?_; rintro e w2 ⟨rfl, rfl⟩)
                      | (go_at_call 39; refine (HNY.out _ HB5.out).mono ?_; rintro e w2 ⟨rfl, rfl⟩)
                      | (go_at_call 42; refine (HJ.out w5).mono ?_; rintro e w6 ⟨rfl, hb6⟩; have HB6 := Lib.hid (HB5.out.trans ((((Below.refl w5.heap.size w5).alloc (Nat.le_refl _) _).trans (hb6.mono (by simp))).mono HB5.out.size)); have HROW6 := Lib.hid (own_keep HROW5.out (Mod.of_below ((((Below.refl w5.heap.size w5).alloc (Nat.le_refl _) _).trans (hb6.mono (by simp))))) (fun _ _ h => h)); clear hb6)
                      | (at_builtin; refine wpList_app w6 intElem rfl (.tmp 132) (.tmp 133) rfl w4.heap.size (.slice Av 0 cv) 0 (nCs ls) rfl HROW6.out w6.heap.size none 0 0 [] rfl (by simp) (Cells.nil _ _ _) (by first | exact nCs_one _ | simp) (by unfold maxLen; omega) (by omega) HB6.out.size ?_; intro A7 c7 w7 hA; have HA7 := Lib.hid hA; clear hA))
                    refine bodyPost_ret (results_tmp3 rfl _ _ _) rfl (HERR.out _ _ 3 rfl (by rw [HTK.out, HLE.out, HLF.out]) (HW4.out.trans ((HA7.out.below HB6.out HB6.out.size (own_base HROW.out)).mono HW4.out.size)))
                  · have h0 : 0 < ll := by omega
                    rw [if_neg (by rintro ⟨_, h⟩; rw [h] at HLN; exact hll0 HLN.out.symm)] at HLF
                    have HLC := Lib.hid (last_cell HLN.out h0)
                    obtain ⟨x, hx⟩ : ∃ x, saysP ls 16 = x := ⟨_, rfl⟩
                    rw [hx] at HLF HLC
                    have HJ := Lib.hid (fun W : World => rjoin_no W.heap.size 1 many (W.alloc (.cells #[.int .i64 16, .int .i64 (many : Int)] 67)) (by simp) hmm3.1 hmm3.2 (row2_0 W _ _ _) (row2_1 W _ _ _))
                    have HUP : Hid (∀ k, nCs (List.replicate (k + 1) x) = nCs (List.replicate k x) ++ [.int .i64 (x : Int)]) := fun k => by
                      rw [List.replicate_succ', nCs, List.map_append]
                      rfl
                    have HNC : Hid (nCs (ls ++ List.replicate many x) = nCs ls ++ nCs (List.replicate many x)) := by show _ = _; simp [nCs]
                    have HNL : Hid ((ls ++ List.replicate many x).length = ll + many) := by show _ = _; rw [List.length_append, HLN.out, List.length_replicate]
                    have t4 : decide ((0 : Int) < (ll : Int)) = true := decide_eq_true (by omega)
                    have t4n : decide (0 < ll) = true := decide_eq_true h0
                    have hw1 : IntKind.i64.wrap ((ll : Int) - 1) = ((ll - 1 : Nat) : Int) := by rw [IntWalk.i64_in _ (by omega)]; omega
                    have hlt1 : ((ll - 1 : Nat) : Int) < (ll : Int) := by omega
                    have hge1 : (0 : Int) ≤ ((ll - 1 : Nat) : Int) := by omega
                    have HFU := Lib.hid hfu
                    clear hab hll0 hx hfu h0
                    go_wp2_with (first
                      | (go_at_call 34; refine (HEX.out _).mono ?_; rintro e w2 ⟨rfl, rfl⟩)
                      | (go_at_call 39; refine (HNY.out _ HB5.out).mono ?_; rintro e w2 ⟨rfl, rfl⟩)
                      | (go_at_call 42; refine (HJ.out w5).mono ?_; rintro e w6 ⟨rfl, hb6⟩; have HB6 := Lib.hid (HB5.out.trans ((((Below.refl w5.heap.size w5).alloc (Nat.le_refl _) _).trans (hb6.mono (by simp))).mono HB5.out.size)); have HROW6 := Lib.hid (own_keep HROW5.out (Mod.of_below ((((Below.refl w5.heap.size w5).alloc (Nat.le_refl _) _).trans (hb6.mono (by simp))))) (fun _ _ h => h)); clear hb6))
                    obtain ⟨b, o, rfl, hbB, hc⟩ := (Cells.of_own HROW6.out) (by rw [nCs_len, HLN.out]; omega)
                    have HCX : Hid (∀ W, Below w6.heap.size w6 W → W.cell? ⟨b, o + (ll - 1), none⟩ = some (.int .i64 (x : Int))) := fun W hW => (hW.cell (p := ⟨b, o + (ll - 1), none⟩) hbB).trans (hc _ _ (nCs_at HLC.out))
                    clear hc hbB HB5 HROW5 HBEL t4 t4n
                    go_loopg [17, 18] many (fun gk v i wr => ∃ k2 : Nat, k2 + gk = many ∧ i = .int .i64 (k2 : Int) ∧ (∃ A c, v = .slice A k2 c) ∧ wr.ownsRow w6.heap.size 3 1 v k2 (nCs (List.replicate k2 x)) ∧ Below w6.heap.size w6 wr)
                    case atStart => exact ⟨0, by omega, rfl, ⟨none, 0, rfl⟩, World.ownsRow_nil _ _ _ _, Below.refl _ _⟩
                    case round =>
                      obtain ⟨k2, hk2, rfl, ⟨A3, c3, rfl⟩, hrow, hbel⟩ := hrel
                      have HROW3 := Lib.hid hrow
                      have HBEL3 := Lib.hid hbel
                      have HB63 := Lib.hid (HB6.out.trans (hbel.mono HB6.out.size))
                      have HROWL := Lib.hid (own_keep HROW6.out (Mod.of_below hbel) (fun _ _ h => h))
                      have q2 := HCX.out wr hbel
                      clear hrow hbel
                      by_cases hkm : k2 < many
                      · go_wp2_with (first
                          | (go_at_call 39; refine (HNY.out _ HB63.out).mono ?_; rintro e w2 ⟨rfl, rfl⟩)
                          | (at_builtin; refine wpList_app1 wr intElem rfl (.tmp 120) (.tmp 127) rfl w6.heap.size (.slice A3 k2 c3) k2 (nCs (List.replicate k2 x)) rfl HROW3.out _ rfl rfl (by simp [Value.oneCell']) (by unfold maxLen; omega) (by omega) HBEL3.out.size ?_; intro A' c' w8 hA; have HA := Lib.hid hA; clear hA))
                        go_roundg (gk - 1)
                        case measure => omega
                        case rel =>
                          refine ⟨k2 + 1, by omega, by go_num, ⟨A', c', rfl⟩, ?_, HA.out.below HBEL3.out HBEL3.out.size (own_base HROW3.out)⟩
                          have h := HA.out.own
                          rw [HUP.out]
                          exact h
                      · obtain rfl : k2 = many := by omega
                        have HC3 := Lib.hid (Cells.of_own HROW3.out)
                        by_cases hbig : n < ll + k2
                        · rw [if_pos hbig] at HLF
                          have HLF := Lib.hid HLF
                          go_wp2_with (first
                            | (go_at_call 39; refine (HNY.out _ HB63.out).mono ?_; rintro e w2 ⟨rfl, rfl⟩)
                            | (at_builtin; refine wpList_app wr intElem rfl (.tmp 132) (.tmp 133) rfl w4.heap.size (.slice (some ⟨b, o, none⟩) ll cv) ll (nCs ls) rfl HROWL.out wr.heap.size A3 k2 c3 (nCs (List.replicate k2 x)) rfl (by simp [nCs]) HC3.out (by first | exact nCs_one _ | simp) (by unfold maxLen; omega) (by omega) HB63.out.size ?_; intro A7 c7 w7 hA; have HA7 := Lib.hid hA; clear hA))
                          refine bodyPost_ret (results_tmp3 rfl _ _ _) rfl (HERR.out _ _ 3 rfl (by rw [HTK.out, HLE.out, HLF.out]) (HW4.out.trans ((HA7.out.below HB63.out HB63.out.size (own_base HROW.out)).mono HW4.out.size)))
                        · rw [if_neg hbig] at HLF
                          have HLF := Lib.hid HLF
                          have hadd : ll + k2 ≤ n := by omega
                          go_wp2_with (first
                            | (go_at_call 39; refine (HNY.out _ HB63.out).mono ?_; rintro e w2 ⟨rfl, rfl⟩)
                            | (at_builtin; refine wpList_app wr intElem rfl (.tmp 132) (.tmp 133) rfl w4.heap.size (.slice (some ⟨b, o, none⟩) ll cv) ll (nCs ls) rfl HROWL.out wr.heap.size A3 k2 c3 (nCs (List.replicate k2 x)) rfl (by simp [nCs]) HC3.out (by first | exact nCs_one _ | simp) (by unfold maxLen; omega) (by omega) HB63.out.size ?_; intro A7 c7 w7 hA; have HA7 := Lib.hid hA; clear hA))
                          go_roundg j
                          case measure => omega
                          case rel => exact ⟨ls ++ List.replicate k2 x, p' + (on + 2), by go_num, by rw [HLE.out, HLF.out], by rw [HNL.out]; have := HFU.out; omega, by rw [HNL.out]; omega, by omega, by rw [HNL.out, HNC.out]; exact HA7.out.own, HA7.out.below HB63.out HB63.out.size (own_base HROW.out)⟩
                · rw [if_neg (by rintro ⟨h, _⟩; exact h16 h)] at HLF
                  have t16 : ((t : Int) == 16) = false := by simp; omega
                  obtain ⟨x, hx⟩ : ∃ x, saysP ls t = x := ⟨_, rfl⟩
                  rw [hx] at HLF
                  have hx0 : saysP [] t = x := by rw [← hx]; unfold saysP; rw [if_neg h16, if_neg h16]
                  have HJ := Lib.hid (fun W : World => rjoin_any W.heap.size 1 t many x (W.alloc (.cells #[.int .i64 (t : Int), .int .i64 (many : Int)] 67)) (by simp) (by omega) h16 HMM.out.1 HMM.out.2 hx0 (row2_0 W _ _ _) (row2_1 W _ _ _))
                  have HNC : Hid (nCs (ls ++ List.replicate many x) = nCs ls ++ nCs (List.replicate many x)) := by show _ = _; simp [nCs]
                  have HNL : Hid ((ls ++ List.replicate many x).length = ll + many) := by show _ = _; rw [List.length_append, HLN.out, List.length_replicate]
                  have HFU := Lib.hid hfu
                  clear hx hx0 h16 hfu
                  by_cases hbig : n < ll + many
                  · rw [if_pos hbig] at HLF
                    have HLF := Lib.hid HLF
                    go_wp2_with (first
                      | (go_at_call 34; refine (HEX.out _).mono ?_; rintro e w2 ⟨rfl, rfl⟩)
                      | (go_at_call 39; refine (HNY.out _ HB5.out).mono ?_; rintro e w2 ⟨rfl, rfl⟩)
                      | (go_at_call 42; refine (HJ.out w5).mono ?_; rintro e w6 ⟨A6, c6, rfl, hown6, hb6⟩; have HB6 := Lib.hid (HB5.out.trans ((((Below.refl w5.heap.size w5).alloc (Nat.le_refl _) _).trans (hb6.mono (by simp))).mono HB5.out.size)); have HROW6 := Lib.hid (own_keep HROW5.out (Mod.of_below ((((Below.refl w5.heap.size w5).alloc (Nat.le_refl _) _).trans (hb6.mono (by simp))))) (fun _ _ h => h)); have HC6 := Lib.hid (Cells.of_own hown6); clear hb6 hown6)
                      | (at_builtin; refine wpList_app w6 intElem rfl (.tmp 132) (.tmp 133) rfl w4.heap.size (.slice Av ll cv) ll (nCs ls) rfl HROW6.out w6.heap.size A6 many c6 (nCs (List.replicate many x)) rfl (by simp [nCs]) HC6.out (by first | exact nCs_one _ | simp) (by unfold maxLen; omega) (by omega) HB6.out.size ?_; intro A7 c7 w7 hA; have HA7 := Lib.hid hA; clear hA))
                    refine bodyPost_ret (results_tmp3 rfl _ _ _) rfl (HERR.out _ _ 3 rfl (by rw [HTK.out, HLE.out, HLF.out]) (HW4.out.trans ((HA7.out.below HB6.out HB6.out.size (own_base HROW.out)).mono HW4.out.size)))
                  · rw [if_neg hbig] at HLF
                    have HLF := Lib.hid HLF
                    have hadd : ll + many ≤ n := by omega
                    go_wp2_with (first
                      | (go_at_call 34; refine (HEX.out _).mono ?_; rintro e w2 ⟨rfl, rfl⟩)
                      | (go_at_call 39; refine (HNY.out _ HB5.out).mono ?_; rintro e w2 ⟨rfl, rfl⟩)
                      | (go_at_call 42; refine (HJ.out w5).mono ?_; rintro e w6 ⟨A6, c6, rfl, hown6, hb6⟩; have HB6 := Lib.hid (HB5.out.trans ((((Below.refl w5.heap.size w5).alloc (Nat.le_refl _) _).trans (hb6.mono (by simp))).mono HB5.out.size)); have HROW6 := Lib.hid (own_keep HROW5.out (Mod.of_below ((((Below.refl w5.heap.size w5).alloc (Nat.le_refl _) _).trans (hb6.mono (by simp))))) (fun _ _ h => h)); have HC6 := Lib.hid (Cells.of_own hown6); clear hb6 hown6)
                      | (at_builtin; refine wpList_app w6 intElem rfl (.tmp 132) (.tmp 133) rfl w4.heap.size (.slice Av ll cv) ll (nCs ls) rfl HROW6.out w6.heap.size A6 many c6 (nCs (List.replicate many x)) rfl (by simp [nCs]) HC6.out (by first | exact nCs_one _ | simp) (by unfold maxLen; omega) (by omega) HB6.out.size ?_; intro A7 c7 w7 hA; have HA7 := Lib.hid hA; clear hA))
                    go_roundg j
                    case measure => omega
                    case rel => exact ⟨ls ++ List.replicate many x, p' + (on + sb), by go_num, by rw [HLE.out, HLF.out], by rw [HNL.out]; have := HFU.out; omega, by rw [HNL.out]; omega, by omega, by rw [HNL.out, HNC.out]; exact HA7.out.own, HA7.out.below HB6.out HB6.out.size (own_base HROW.out)⟩
            · have HLF := HLF0.out (er, 0, 0, 0) (by unfold partF; rw [hf]; exact if_pos hne)
              rw [if_pos (by simpa using hne)] at HLF
              dsimp only at HLF
              have HLF := Lib.hid HLF
              have t3 : (er != 0) = true := by simpa using hne
              clear HK hne hf hfu
              go_wp2
              refine bodyPost_ret (results_tmp3 rfl _ _ _) rfl (HERR.out _ _ er rfl (by rw [HTK.out, HLE.out, HLF.out]) (HW4.out.trans (HB5.out.mono HW4.out.size)))
          · have HE : Hid (tkF F L p = (0, ls, p')) := by
              show _ = _
              rw [HTK.out, HLE.out]
              cases gk with
              | zero => rfl
              | succ j => rw [lensF, if_pos (by rw [HLN.out]; omega)]
            clear hfu
            go_wp2
            refine bodyPost_ret (results_tmp3 rfl _ _ _) rfl ?_
            rw [HE.out]
            dsimp only
            rw [HLN.out]
            exact ⟨Av, cv, rfl, own_leT HROW.out HW4.out.size, HW4.out.trans (HBEL.out.mono HW4.out.size)⟩
end Go.Proofs.Ytbpgaaecifnohaa
