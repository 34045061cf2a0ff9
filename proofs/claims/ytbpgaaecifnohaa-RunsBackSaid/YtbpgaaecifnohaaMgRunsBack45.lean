/- Layer 9: a table is taken. -/
import Derived.Test.YtbpgaaecifnohaaMgRunsBack44
import Derived.Test.YtbpgaaecifnohaaMgRunsBack43
import Derived.Test.YtbpgaaecifnohaaMgRunsBack40
import Derived.Deep.RegionWith
namespace Go.Proofs.Ytbpgaaecifnohaa
open Go.RowKit BitsP

theorem own_leT {w : World} {base base' : Nat} {e : TypeId} {size n : Nat} {v : Value} {xs : List Value} (h : w.ownsRow base e size v n xs) (hb : base' ≤ base) : w.ownsRow base' e size v n xs := by
  obtain ⟨h1, h2⟩ := h
  refine ⟨h1, ?_⟩
  rcases h2 with h2 | ⟨g, c, cur, hv, hg, h3⟩
  · exact .inl h2
  · exact .inr ⟨g, c, cur, hv, Nat.le_trans hb hg, h3⟩
theorem nCs_one (ns : List Nat) : ∀ u ∈ nCs ns, u.oneCell' = true := fun u hu => by
  obtain ⟨n, _, rfl⟩ := List.mem_map.1 hu
  rfl
theorem rntake_nil (w : World) : Calls Try.prog 14 #[.pointer none] w fun e w' => e = .returned (.tuple #[.slice none 0 0, .int .i64 1]) ∧ w = w' := by
  go_enter Try.func14, Try.ntmps14
  go_wp2
  go_ret2
  exact ⟨rfl, rfl⟩
theorem LCa.keep2 {w w' : World} {n g : Nat} {zs : List Int} {S : Nat → Prop} (h : LCa w n g zs) (hm : Mod S w w') (hS : ∀ k, S k → k < n ∨ g < k) : LCa w' n g zs := by
  obtain ⟨A1, A2, A3, c1, c2, c3, m, hcb, hmx, h1, h2, h3, hg, ha⟩ := h
  have hgl := cb_lt hcb
  have key : ∀ {A : Option Addr} {xs : List Value}, (∀ a, A = some a → n ≤ a.block) → Cells w g A xs → Cells w' g A xs := fun hA hc hp => by
    obtain ⟨b, o, e, hb, hcc⟩ := hc hp
    have hnb := hA _ e
    exact ⟨b, o, e, hb, fun j u hj => (World.cell?_of_block (a := ⟨b, o + j, none⟩) (hm.block b (by omega) (fun hs => by have := hS b hs; dsimp only at hnb; omega))).trans (hcc j u hj)⟩
  exact ⟨A1, A2, A3, c1, c2, c3, m, hm.keep hcb (fun hs => by have := hS g hs; omega), hmx, key (fun a e => ha a (.inl e)) h1, key (fun a e => ha a (.inr (.inl e))) h2, key (fun a e => ha a (.inr (.inr e))) h3, hg, ha⟩
/-- What the loop keeps: the lengths, the reader, the code. -/
structure TkI (w W : World) (r base B : Nat) (S : Nat → Prop) (bs : List UInt8) (p g : Nat) (zs : List Int) (v : Value) (ls : List Nat) : Prop where
  row : W.ownsRow B 3 1 v ls.length (nCs ls)
  rd : RdS W r base S bs p
  mod : Mod (oneB r) w W
  code : LCa W w.heap.size g zs
  big : B ≤ W.heap.size
section
variable {w W W' : World} {r base B p p' g : Nat} {S : Nat → Prop} {bs : List UInt8} {zs : List Int} {v v' : Value} {ls ls' : List Nat}
theorem TkI.part (h : TkI w W r base B S bs p g zs v ls) (hr : r < w.heap.size) (hB : w.heap.size ≤ B) (hm : Mod (oneB r) W W') (hrd : RdS W' r base S bs p') : TkI w W' r base B S bs p' g zs v ls :=
  ⟨own_keep h.row hm (fun k hk hs => by have h2 : k = r := hs; have := own_base h.row k hk; omega), hrd, h.mod.then_ hm, h.code.keep2 hm (fun k hs => by have h2 : k = r := hs; omega), Nat.le_trans h.big hm.size⟩
theorem TkI.below (h : TkI w W r base B S bs p g zs v ls) (hb : Below W.heap.size W W') : TkI w W' r base B S bs p g zs v ls :=
  ⟨own_keep h.row (Mod.of_below hb) (fun _ _ h => h), h.rd.keep (Mod.of_below hb) (fun _ _ h => h), h.mod.then_ ((Mod.of_below hb).mono fun _ h => h.elim), h.code.keep2 (Mod.of_below hb) (fun _ h => h.elim), Nat.le_trans h.big hb.size⟩
theorem TkI.app {m : Nat} {xs : List Value} (h : TkI w W r base B S bs p g zs v ls) (hSL : ∀ k, S k → k < w.heap.size) (hB : w.heap.size ≤ B) (hg : g < B) (ha : App W B 3 1 v m xs W' v') (hm : m = ls'.length) (hx : xs = nCs ls') : TkI w W' r base B S bs p g zs v' ls' := by
  subst hm hx
  exact ⟨ha.own, h.rd.keep (Mod.of_app ha) (fun k hk hs => by have := hSL k hk; have := own_base h.row k hs; omega), h.mod.trans (Mod.of_app ha) (fun k hk => .inr (by have := own_base h.row k hk; omega)), h.code.keep2 (Mod.of_app ha) (fun k hk => .inr (by have := own_base h.row k hk; omega)), Nat.le_trans h.big (Mod.of_app ha).size⟩
end
set_option maxRecDepth 100000 in
set_option maxHeartbeats 2000000 in
theorem rntake_any (F : List Int → List Bool → Int × Int × Nat) (hF : FunT F) (r base : Nat) (S : Nat → Prop) (bs : List UInt8) (p : Nat) (w : World) (hrd : RdS w r base S bs p) (hbl : bs.length ≤ 1000000) :
    Calls Try.prog 14 #[.pointer (some ⟨r, 0, none⟩)] w
      fun e w' => ∃ A c p', e = .returned (.tuple #[.slice A (tkF F (unpack bs) p).2.1.length c, .int .i64 (tkF F (unpack bs) p).1]) ∧ w'.ownsRow w.heap.size 3 1 (.slice A (tkF F (unpack bs) p).2.1.length c) (tkF F (unpack bs) p).2.1.length (nCs (tkF F (unpack bs) p).2.1) ∧ RdS w' r base S bs p' ∧ ((tkF F (unpack bs) p).1 = 0 → p' = (tkF F (unpack bs) p).2.2) ∧ Mod (oneB r) w w' := by
  obtain ⟨hrl, hp8, hSr⟩ := rd_low hrd
  have HT := Lib.hid (rtake_any r base S bs p 9 w hrd (by omega) (by omega) (by omega))
  rw [show cnt 9 = 9 from rfl] at HT
  have HRD := Lib.hid hrd
  have HSL : Hid (∀ k, S k → k < w.heap.size) := hrd.lt
  have HBACK : Hid (∀ (e : Ending) (w' : World) (t : Int × List Nat × Nat), tkF F (unpack bs) p = t → (∃ A c p', e = .returned (.tuple #[.slice A t.2.1.length c, .int .i64 t.1]) ∧ w'.ownsRow w.heap.size 3 1 (.slice A t.2.1.length c) t.2.1.length (nCs t.2.1) ∧ RdS w' r base S bs p' ∧ (t.1 = 0 → p' = t.2.2) ∧ Mod (oneB r) w w') →
    ∃ A c p', e = .returned (.tuple #[.slice A (tkF F (unpack bs) p).2.1.length c, .int .i64 (tkF F (unpack bs) p).1]) ∧ w'.ownsRow w.heap.size 3 1 (.slice A (tkF F (unpack bs) p).2.1.length c) (tkF F (unpack bs) p).2.1.length (nCs (tkF F (unpack bs) p).2.1) ∧ RdS w' r base S bs p' ∧ ((tkF F (unpack bs) p).1 = 0 → p' = (tkF F (unpack bs) p).2.2) ∧ Mod (oneB r) w w') := fun e w' t ht h => by rw [ht]; exact h
  have HERR : Hid (∀ (e : Ending) (w' : World) (er : Int) (p' : Nat), e = .returned (.tuple #[.slice none 0 0, .int .i64 er]) → er ≠ 0 → tkF F (unpack bs) p = (er, [], 0) → RdS w' r base S bs p' → Mod (oneB r) w w' → _) := fun e w' er p' he hne ht hr hm => HBACK.out e w' _ ht ⟨none, 0, p', he, World.ownsRow_nil _ _ _ _, hr, fun h => absurd h hne, hm⟩
  have hLl := unpack_length bs
  obtain ⟨L, hL⟩ : ∃ L, unpack bs = L := ⟨_, rfl⟩
  have HL := Lib.hid hL
  rw [hL] at hLl
  clear hrd HBACK
  go_enter Try.func14, Try.ntmps14
  by_cases h9 : p + 9 ≤ 8 * bs.length
  · rw [(fits_yes h9).1, (fits_yes h9).2, numA_takes h9, hL] at HT
    have hn512 := numA_lt L p 9
    obtain ⟨n, hn⟩ : ∃ n, numA L p 9 = n := ⟨_, rfl⟩
    have HN := Lib.hid hn
    rw [hn] at HT hn512
    have hn512' : n < 512 := hn512
    clear hn hn512
    by_cases hbad : n = 0 ∨ 320 < n
    · have HTK : Hid (tkF F (unpack bs) p = (5, [], 0)) := by show _ = _; rw [hL, tkF, if_neg (by omega), HN.out, if_pos hbad]
      clear hL
      rcases hbad with h0 | h0
      · subst h0
        go_wp2_with (go_at_call 22; refine HT.out.mono ?_; rintro e w2 ⟨rfl, hrd2, hm2⟩; have HR2 := Lib.hid hrd2; have HM2 := Lib.hid hm2; clear hrd2 hm2)
        refine bodyPost_ret (results_tmp2 rfl _ _ _) rfl (HERR.out _ _ 5 _ rfl (by decide) HTK.out HR2.out HM2.out)
      · have t1 : ((n : Int) == 0) = false := by simp; omega
        have t2 : decide ((320 : Int) < (n : Int)) = true := decide_eq_true (by omega)
        go_wp2_with (go_at_call 22; refine HT.out.mono ?_; rintro e w2 ⟨rfl, hrd2, hm2⟩; have HR2 := Lib.hid hrd2; have HM2 := Lib.hid hm2; clear hrd2 hm2)
        refine bodyPost_ret (results_tmp2 rfl _ _ _) rfl (HERR.out _ _ 5 _ rfl (by decide) HTK.out HR2.out HM2.out)
    · have t1 : ((n : Int) == 0) = false := by simp; omega
      have t2 : decide ((320 : Int) < (n : Int)) = false := decide_eq_false (by omega)
      go_wp2_with (first
        | (go_at_call 22; refine HT.out.mono ?_; rintro e w2 ⟨rfl, hrd2, hm2⟩; have HR2 := Lib.hid hrd2; have HM2 := Lib.hid hm2; clear hrd2 hm2))
      refine (rtcode_any r base S bs (p + 9) w2 HR2.out hbl).mono ?_
      rintro e w3 ⟨p3, g, hrd3, hm3, h3⟩
      have HR3 := Lib.hid hrd3
      have HM3 := Lib.hid (HM2.out.then_ hm3)
      clear hrd3 hm3
      rw [hL] at h3
      obtain ⟨zs, hzs⟩ : ∃ zs : List Int, ((lensA L (p + 9) 19).map fun n : Nat => (n : Int)) = zs := ⟨_, rfl⟩
      rw [hzs] at h3
      have hS2 := HM2.out.size
      rcases h3 with ⟨hno, rfl⟩ | ⟨hy, hca, rfl⟩ | ⟨hy, hca, rfl, rfl, hlc⟩
      · have HTK : Hid (tkF F (unpack bs) p = (2, [], 0)) := by show _ = _; rw [hL, tkF, if_neg (by omega), HN.out, if_neg hbad, if_pos (by omega)]
        clear hL hno hbad hzs
        go_wp2
        refine bodyPost_ret (results_tmp2 rfl _ _ _) rfl (HERR.out _ _ 2 _ rfl (by decide) HTK.out HR3.out HM3.out)
      · have HTK : Hid (tkF F (unpack bs) p = (13, [], 0)) := by show _ = _; rw [hL, tkF, if_neg (by omega), HN.out, if_neg hbad, if_neg (by omega), hzs, if_pos hca]
        clear hL hbad hzs hca
        go_wp2
        refine bodyPost_ret (results_tmp2 rfl _ _ _) rfl (HERR.out _ _ 13 _ rfl (by decide) HTK.out HR3.out HM3.out)
      · have HTK : Hid (tkF F (unpack bs) p = lensF F zs n L n [] (p + 85)) := by show _ = _; rw [hL, tkF, if_neg (by omega), HN.out, if_neg hbad, if_neg (by omega), hzs, if_neg (by rw [hca]; simp)]
        have HCA := Lib.hid hca
        have HG : Hid (g < w3.heap.size) := by obtain ⟨_, _, _, _, _, _, _, h, _⟩ := hlc; exact cb_lt h
        have HI3 : Hid (TkI w w3 r base w3.heap.size S bs (p + 9 + 76) g zs (.slice none 0 0) []) := ⟨World.ownsRow_nil _ _ _ _, HR3.out, HM3.out, hlc.lower hS2, Nat.le_refl _⟩
        have HB3 : Hid (w.heap.size ≤ w3.heap.size) := HM3.out.size
        have hn320 : n ≤ 320 := by omega
        clear hbad hca hlc hzs HR3 HM3 hy
        go_wp2
        go_loopg [8] n (fun gk v wr => ∃ (ls : List Nat) (p' : Nat), lensF F zs n L n [] (p + 85) = lensF F zs n L gk ls p' ∧ n ≤ ls.length + gk ∧ ls.length ≤ n ∧ TkI w wr r base w3.heap.size S bs p' g zs v ls)
        case atStart => exact ⟨[], p + 9 + 76, rfl, by simp, by simp, HI3.out⟩
        case round =>
          obtain ⟨ls, p', hle, hfu, hln, hti⟩ := hrel
          obtain ⟨Av, cv, rfl⟩ := own_form hti.row
          have HLE := Lib.hid hle
          have HTI := Lib.hid hti
          clear hle hti HI3
          obtain ⟨ll, hll⟩ : ∃ ll, ls.length = ll := ⟨_, rfl⟩
          have HLL := Lib.hid hll
          rw [hll] at hfu hln ⊢
          by_cases hlt : ll < n
          · obtain ⟨j, rfl⟩ : ∃ j, gk = j + 1 := ⟨gk - 1, by omega⟩
            have HP := Lib.hid (rtpart_any F hF g r base zs S bs p' wr HCA.out HTI.out.code.lc HTI.out.rd hbl)
            have HPM := Lib.hid (partF_many F zs (L.drop p'))
            have HLF : Hid (lensF F zs n L (j + 1) ls p' = if (partF F zs (L.drop p')).1 ≠ 0 then ((partF F zs (L.drop p')).1, [], 0) else if (partF F zs (L.drop p')).2.1 = 16 ∧ ls = [] then (3, [], 0) else if n < ls.length + (partF F zs (L.drop p')).2.2.1 then (3, [], 0) else lensF F zs n L j (ls ++ List.replicate (partF F zs (L.drop p')).2.2.1 (saysP ls (partF F zs (L.drop p')).2.1)) (p' + (partF F zs (L.drop p')).2.2.2)) := by
              show _ = _
              rw [lensF, if_neg (by omega)]
            rw [hL] at HP
            obtain ⟨P, hP⟩ : ∃ P, partF F zs (L.drop p') = P := ⟨_, rfl⟩
            rw [hP] at HP HPM HLF
            obtain ⟨er, num, many, on⟩ := P
            dsimp only at HP HPM HLF
            clear hP
            by_cases her : er = 0
            · subst her
              obtain ⟨hm1, hm4⟩ := HPM.out rfl
              rw [if_neg (by simp)] at HLF
              by_cases h16 : num = 16 ∧ ls = []
              · rw [if_pos h16] at HLF
                obtain ⟨rfl, rfl⟩ := h16
                obtain rfl : 0 = ll := HLL.out
                have HFO := Lib.hid (fun W => follow_no cv many Av W)
                clear hfu
                go_wp2_with (first
                  | (go_at_call 37; refine HP.out.mono ?_; rintro e w4 ⟨p4, rfl, hrd4, hpe, hm4'⟩; have HI5 := Lib.hid (fun o => (HTI.out.part hrl HB3.out hm4' hrd4).below ((Below.refl _ w4).alloc (Nat.le_refl _) o)); clear hrd4 hpe hm4')
                  | (go_at_call 38; refine (HFO.out _).mono ?_; rintro e w6 ⟨rfl, hb6⟩; have HI6 := Lib.hid ((HI5.out _).below hb6); clear hb6))
                refine bodyPost_ret (results_tmp2 rfl _ _ _) rfl (HERR.out _ _ 3 _ rfl (by decide) (by rw [HTK.out, HLE.out, HLF.out]) HI6.out.rd HI6.out.mod)
              · rw [if_neg h16] at HLF
                have hsn : num = 16 → 0 < ll := fun h => by
                  rcases Nat.eq_zero_or_pos ll with h0 | h0
                  · exact absurd ⟨h, List.eq_nil_of_length_eq_zero (by rw [HLL.out]; exact h0)⟩ h16
                  · exact h0
                have HFO : Hid (∀ W : World, W.ownsRow w3.heap.size 3 1 (.slice Av ls.length cv) ls.length (nCs ls) → _) := fun W hW => follow_any Av ll cv ls num many W.heap.size W HLL.out (by omega) (Cells.of_own hW) (Nat.le_refl _) hsn hm1 hm4
                rw [HLL.out] at HLF
                by_cases hbig : n < ll + many
                · rw [if_pos hbig] at HLF
                  clear hfu h16 hsn
                  go_wp2_with (first
                    | (go_at_call 37; refine HP.out.mono ?_; rintro e w4 ⟨p4, rfl, hrd4, hpe, hm4'⟩; have HI5 := Lib.hid (fun o => (HTI.out.part hrl HB3.out hm4' hrd4).below ((Below.refl _ w4).alloc (Nat.le_refl _) o)); clear hrd4 hpe hm4')
                    | (go_at_call 38; refine (HFO.out _ (HI5.out _).row).mono ?_; rintro e w6 ⟨g6, rfl, hg6, hn6, hb6⟩; have HI6 := Lib.hid ((HI5.out _).below hb6); clear hb6 hn6 hg6))
                  refine bodyPost_ret (results_tmp2 rfl _ _ _) rfl (HERR.out _ _ 3 _ rfl (by decide) (by rw [HTK.out, HLE.out, HLF.out]) HI6.out.rd HI6.out.mod)
                · rw [if_neg hbig] at HLF
                  obtain ⟨x, hx⟩ : ∃ x, saysP ls num = x := ⟨_, rfl⟩
                  rw [hx] at HLF HFO
                  have HNC : Hid (nCs (ls ++ List.replicate many x) = nCs ls ++ nCs (List.replicate many x)) := by show _ = _; simp [nCs]
                  have HNL : Hid ((ls ++ List.replicate many x).length = ll + many) := by show _ = _; rw [List.length_append, HLL.out, List.length_replicate]
                  have hadd : ll + many ≤ n := by omega
                  have HFU := Lib.hid hfu
                  clear h16 hsn hx hfu
                  go_wp2_with (first
                    | (go_at_call 37; refine HP.out.mono ?_; rintro e w4 ⟨p4, rfl, hrd4, hpe, hm4'⟩; have HI5 := Lib.hid (fun o => (HTI.out.part hrl HB3.out hm4' hrd4).below ((Below.refl _ w4).alloc (Nat.le_refl _) o)); have HPE := Lib.hid (hpe rfl); clear hrd4 hpe hm4')
                    | (go_at_call 38; refine (HFO.out _ (HI5.out _).row).mono ?_; rintro e w6 ⟨g6, rfl, hg6, hn6, hb6⟩; have HI6 := Lib.hid ((HI5.out _).below hb6); have HN6 := Lib.hid hn6; clear hb6 hn6 hg6)
                    | (at_builtin; refine wpList_app w6 intElem rfl (.tmp 66) (.tmp 67) rfl w3.heap.size (.slice Av ll cv) ll (nCs ls) rfl (by have h := HI6.out.row; rw [HLL.out] at h; exact h) w6.heap.size (some ⟨g6, 0, none⟩) many many (nCs (List.replicate many x)) rfl (by rw [nCs_len, List.length_replicate, Nat.mul_one]) (NB.cellsT HN6.out) (nCs_one _) (by unfold maxLen; omega) (by omega) HI6.out.big ?_; intro A7 c7 w7 hA; have HI7 := Lib.hid (HI6.out.app (ls' := ls ++ List.replicate many x) HSL.out HB3.out HG.out (by rw [HLL.out]; exact hA) HNL.out.symm HNC.out.symm); clear hA))
                  go_roundg j
                  case measure => omega
                  case rel => exact ⟨ls ++ List.replicate many x, p' + on, by rw [HLE.out, HLF.out], by rw [HNL.out]; have := HFU.out; omega, by rw [HNL.out]; omega, by rw [← HPE.out]; exact HI7.out⟩
            · rw [if_pos her] at HLF
              have t3 : (er != 0) = true := by simpa using her
              have HER := Lib.hid her
              clear hfu her
              go_wp2_with (go_at_call 37; refine HP.out.mono ?_; rintro e w4 ⟨p4, rfl, hrd4, hpe, hm4'⟩; have HI5 := Lib.hid (fun o => (HTI.out.part hrl HB3.out hm4' hrd4).below ((Below.refl _ w4).alloc (Nat.le_refl _) o)); clear hrd4 hpe hm4')
              refine bodyPost_ret (results_tmp2 rfl _ _ _) rfl (HERR.out _ _ er _ rfl HER.out (by rw [HTK.out, HLE.out, HLF.out]) (HI5.out _).rd (HI5.out _).mod)
          · have HE : Hid (tkF F (unpack bs) p = (0, ls, p')) := by
              show _ = _
              rw [HTK.out, HLE.out]
              cases gk with
              | zero => rfl
              | succ j => rw [lensF, if_pos (by omega)]
            have HHH := Lib.hid hll
            clear hfu
            go_wp2
            refine bodyPost_ret (results_tmp2 rfl _ _ _) rfl ?_
            rw [HE.out]
            dsimp only
            rw [HLL.out]
            exact ⟨Av, cv, p', rfl, own_leT (by have h := HTI.out.row; rw [HLL.out] at h; exact h) HB3.out, HTI.out.rd, fun _ => rfl, HTI.out.mod⟩
  · rw [(fits_no h9).1, (fits_no h9).2] at HT
    have HTK : Hid (tkF F (unpack bs) p = (2, [], 0)) := by show _ = _; rw [hL, tkF, if_pos (by omega)]
    clear hL
    go_wp2_with (go_at_call 22; refine HT.out.mono ?_; rintro e w2 ⟨rfl, hrd2, hm2⟩; have HR2 := Lib.hid hrd2; have HM2 := Lib.hid hm2; clear hrd2 hm2)
    refine bodyPost_ret (results_tmp2 rfl _ _ _) rfl (HERR.out _ _ 2 _ rfl (by decide) HTK.out HR2.out HM2.out)
end Go.Proofs.Ytbpgaaecifnohaa
/- Layer 9: parts are joined. -/
namespace Go.Proofs.Ytbpgaaecifnohaa
open Go.RowKit BitsP

set_option maxRecDepth 100000 in
set_option maxHeartbeats 1000000 in
theorem rightP_any (num many : Nat) (w : World) (hn : num < 19) (h1 : (spanP num).1 ≤ many) (h2 : many ≤ mostP num) :
    Calls Try.prog 45 #[.agg #[.int .i64 (num : Int), .int .i64 (many : Int)]] w fun e w' => e = .returned (.bool true) ∧ Below w.heap.size w w' := by
  obtain ⟨W1, hW1⟩ : ∃ W1, w.alloc (.cells #[.int .i64 (num : Int), .int .i64 (many : Int)] 54) = W1 := ⟨_, rfl⟩
  have HB1 : Hid (Below w.heap.size w W1) := by show Below _ _ _; rw [← hW1]; exact (Below.refl _ w).alloc (Nat.le_refl _) _
  have HSP := Lib.hid (fun W => span_any num W)
  have HMO := Lib.hid (fun W => most_any num W)
  obtain ⟨⟨sa, sb⟩, hab⟩ : ∃ ab, spanP num = ab := ⟨_, rfl⟩
  rw [hab] at HSP h1
  dsimp only at HSP h1
  obtain ⟨mo, hmo⟩ : ∃ mo, mostP num = mo := ⟨_, rfl⟩
  rw [hmo] at HMO h2
  have c0 : W1.cell? ⟨w.heap.size, 0, none⟩ = some (.int .i64 (num : Int)) := by rw [← hW1]; exact cell_of_row _ _ 0 _ _ _ (heap_alloc_new w _)
  have c1 : W1.cell? ⟨w.heap.size, 1, none⟩ = some (.int .i64 (many : Int)) := by rw [← hW1]; exact cell_of_row _ _ 1 _ _ _ (heap_alloc_new w _)
  have d0 : W1.drew.cell? ⟨w.heap.size, 0, none⟩ = some (.int .i64 (num : Int)) := c0
  have d1 : W1.drew.cell? ⟨w.heap.size, 1, none⟩ = some (.int .i64 (many : Int)) := c1
  have t1 : decide ((num : Int) < 19) = true := decide_eq_true (by omega)
  have t2 : decide ((sa : Int) ≤ (many : Int)) = true := decide_eq_true (by omega)
  have t3 : decide ((many : Int) ≤ (mo : Int)) = true := decide_eq_true (by omega)
  have t2' : decide (sa ≤ many) = true := decide_eq_true h1
  have t3' : decide (many ≤ mo) = true := decide_eq_true h2
  have t1' : decide (num < 19) = true := decide_eq_true hn
  clear h1 h2 hab hmo
  go_enter Try.func45, Try.ntmps45
  go_wp2_with (go_at_call 28; refine (HSP.out _).mono ?_; rintro e w' ⟨rfl, rfl⟩)
  go_region_with (go_at_call 69; refine (HMO.out _).mono ?_; rintro e w' ⟨rfl, rfl⟩)
  all_goals
    go_wp2
    go_ret
    exact ⟨rfl, HB1.out.drew⟩
set_option maxRecDepth 100000 in
set_option maxHeartbeats 2000000 in
theorem rnjoin_any (A : Option Addr) (l c n : Nat) (ls : List Nat) (B : Nat) (w : World) (hl : ls.length = l) (hm : l ≤ 320) (hv : ∀ x ∈ ls, x ≤ 15) (hn : (partsP ls 0).length = n) (hb : Cells w B A ((partsP ls 0).map ptC).flatten) (hB : B ≤ w.heap.size) :
    Calls Try.prog 20 #[.slice A n c] w fun e w' => ∃ A' c', e = .returned (.tuple #[.slice A' l c', .int .i64 0]) ∧ w'.ownsRow w.heap.size 3 1 (.slice A' l c') l (nCs ls) ∧ Below w.heap.size w w' := by
  have HL := Lib.hid hl
  have HV := Lib.hid hv
  have HN := Lib.hid hn
  have hn320 : n ≤ 320 := by have := parts_few ls; omega
  have HCP : Hid (∀ W k t, Below w.heap.size w W → (partsP ls 0)[k]? = some t → ∃ b o, A = some ⟨b, o, none⟩ ∧ W.cell? ⟨b, o + k * 2, none⟩ = some (.int .i64 (t.1 : Int)) ∧ W.cell? ⟨b, o + k * 2 + 1, none⟩ = some (.int .i64 (t.2 : Int))) := fun W k t hW hk => by
    have hlen := (List.getElem?_eq_some_iff.1 hk).1
    obtain ⟨b, o, hA, hbB, hc⟩ := hb (by rw [ptC_len]; omega)
    obtain ⟨h1, h2⟩ := ptC_at hk
    exact ⟨b, o, hA, (hW.cell (p := ⟨b, o + k * 2, none⟩) (by show b < _; omega)).trans (hc _ _ h1), (hW.cell (p := ⟨b, o + k * 2 + 1, none⟩) (by show b < _; omega)).trans (by rw [Nat.add_assoc]; exact hc _ _ h2)⟩
  clear hl hv hn hb
  go_enter Try.func20, Try.ntmps20
  go_wp2
  go_loopg [4, 11] n (fun gk v i wr => ∃ (k p : Nat) (pre : List (Nat × Nat)), k + gk = n ∧ i = .int .i64 (k : Int) ∧ partsP ls 0 = pre ++ partsP ls p ∧ pre.length = k ∧ p ≤ l ∧ (∃ A c, v = .slice A p c) ∧ wr.ownsRow w.heap.size 3 1 v p (nCs (ls.take p)) ∧ Below w.heap.size w wr)
  case atStart => exact ⟨0, 0, [], by omega, rfl, rfl, rfl, Nat.zero_le _, ⟨none, 0, rfl⟩, World.ownsRow_nil _ _ _ _, Below.refl _ _⟩
  case round =>
    obtain ⟨k, p, pre, hk, rfl, hpr, hpl, hple, ⟨Av, cv, rfl⟩, hrow, hbel⟩ := hrel
    have HROW := Lib.hid hrow
    have HBEL := Lib.hid hbel
    have HPR := Lib.hid hpr
    have HPL := Lib.hid hpl
    have hcnt := congrArg List.length hpr
    rw [List.length_append, HN.out, hpl] at hcnt
    clear hrow hbel hpr hpl
    by_cases hkn : k < n
    · have hp : p < ls.length := by
        rcases Nat.lt_or_ge p ls.length with h | h
        · exact h
        · rw [partsP_end (ls := ls) (p := p) (by omega)] at hcnt
          simp at hcnt
          omega
      have hst := partsP_step hp
      obtain ⟨s, hs⟩ : ∃ s, numP ls p = s := ⟨_, rfl⟩
      obtain ⟨d, hd⟩ : ∃ d, manyP ls p = d := ⟨_, rfl⟩
      have hget : (partsP ls 0)[k]? = some (s, d) := by
        rw [HPR.out, List.getElem?_append_right (by rw [HPL.out]; exact Nat.le_refl _), HPL.out, Nat.sub_self, hst, hs, hd]
        rfl
      have hmem := List.mem_of_getElem? hget
      obtain ⟨h19, hs1, _, _⟩ := part_bd HV.out hmem
      dsimp only at h19 hs1
      have hm1 := manyP_pos hp
      have hm2 := (manyP_le ls p).2
      have hm3 := many_le hp
      have htk := take_many ls p
      obtain ⟨hsa, hsb⟩ := says_here HV.out hp
      rw [hd] at hm1 hm2 hm3 htk
      rw [hs] at hsa hsb hm2
      have hd138 := (mostP_le s).2
      have HPR2 : Hid (partsP ls 0 = (pre ++ [(s, d)]) ++ partsP ls (p + d)) := by show _ = _; rw [HPR.out, hst, hs, hd, List.append_assoc]; rfl
      have HPL2 : Hid ((pre ++ [(s, d)]).length = k + 1) := by show _ = _; rw [List.length_append, HPL.out]; rfl
      have HRP := Lib.hid (fun W => rightP_any s d W h19 hs1 hm2)
      obtain ⟨b, o, rfl, c0, c1⟩ := HCP.out wr k (s, d) HBEL.out hget
      dsimp only at c0 c1
      have hlt : (ls.take p).length = p := by rw [List.length_take]; omega
      obtain ⟨x, hx⟩ : ∃ x, ls.getD p 0 = x := ⟨_, rfl⟩
      rw [hx] at hsa htk
      have HFO : Hid (∀ (W : World), W.ownsRow w.heap.size 3 1 (.slice Av p cv) p (nCs (ls.take p)) → _) := fun W hW => follow_any Av p cv (ls.take p) s d W.heap.size W hlt (by omega) (Cells.of_own hW) (Nat.le_refl _) hsb hm1 (by omega)
      rw [hsa] at HFO
      have HNC : Hid (nCs (ls.take (p + d)) = nCs (ls.take p) ++ nCs (List.replicate d x)) := by show _ = _; rw [htk]; simp [nCs]
      have hpd : p + d ≤ l := by have := HL.out; omega
      have hd1 : d ≤ 320 := by omega
      clear hst hs hd hget hmem h19 hs1 hm1 hm2 hm3 htk hsa hsb hd138 hlt hx hp hcnt
      have t7 : decide ((320 : Int) < ((p + d : Nat) : Int)) = false := decide_eq_false (by omega)
      have t8 : decide (320 < p + d) = false := decide_eq_false (by omega)
      go_wp2_with (first
        | (go_at_call 45; refine (HRP.out _).mono ?_; rintro e w4 ⟨rfl, hb4⟩; have hb4' := ((Below.refl wr.heap.size wr).alloc (Nat.le_refl _) (.cells #[.int .i64 (s : Int), .int .i64 (d : Int)] 54)).trans (hb4.mono (by simp)); have r0 : w4.cell? ⟨wr.heap.size, 0, none⟩ = some (.int .i64 (s : Int)) := (hb4.cell (p := ⟨wr.heap.size, 0, none⟩) (by simp)).trans (cell_of_row _ _ 0 _ _ _ (heap_alloc_new wr _)); have r1 : w4.cell? ⟨wr.heap.size, 1, none⟩ = some (.int .i64 (d : Int)) := (hb4.cell (p := ⟨wr.heap.size, 1, none⟩) (by simp)).trans (cell_of_row _ _ 1 _ _ _ (heap_alloc_new wr _)); have HB4 := Lib.hid (HBEL.out.trans (hb4'.mono HBEL.out.size)); have HROW4 := Lib.hid (own_keep HROW.out (Mod.of_below hb4') (fun _ _ h => h)); clear hb4 hb4')
        | (go_at_call 38; refine (HFO.out _ HROW4.out).mono ?_; rintro e w6 ⟨g6, rfl, hg6, hn6, hb6⟩; have HB6 := Lib.hid (HB4.out.trans (hb6.mono HB4.out.size)); have HROW6 := Lib.hid (own_keep HROW4.out (Mod.of_below hb6) (fun _ _ h => h)); have HN6 := Lib.hid hn6; clear hg6 hn6 hb6)
        | (at_builtin; refine wpList_app w6 intElem rfl (.tmp 33) (.tmp 34) rfl w.heap.size (.slice Av p cv) p (nCs (ls.take p)) rfl HROW6.out w6.heap.size (some ⟨g6, 0, none⟩) d d (nCs (List.replicate d x)) rfl (by rw [nCs_len, List.length_replicate, Nat.mul_one]) (NB.cellsT HN6.out) (nCs_one _) (by unfold maxLen; omega) (by omega) HB6.out.size ?_; intro A7 c7 w7 hA; have HA := Lib.hid hA; clear hA))
      go_roundg (gk - 1)
      case measure => omega
      case rel => exact ⟨k + 1, p + d, pre ++ [(s, d)], by omega, by go_num, HPR2.out, HPL2.out, hpd, ⟨A7, c7, rfl⟩, by rw [HNC.out]; exact HA.out.own, HA.out.below HB6.out HB6.out.size (own_base HROW6.out)⟩
    · obtain rfl : k = n := by omega
      have hpn : (partsP ls p).length = 0 := by omega
      have hpl2 : p = l := by
        rcases Nat.lt_or_ge p ls.length with h | h
        · rw [partsP_step h] at hpn
          simp at hpn
        · have := HL.out
          omega
      subst hpl2
      have HTK : Hid (ls.take p = ls) := List.take_of_length_le (by rw [HL.out]; exact Nat.le_refl _)
      clear hcnt hpn
      go_wp2
      go_ret2
      exact ⟨Av, cv, rfl, by have h := HROW.out; rw [HTK.out] at h; exact h, HBEL.out⟩
end Go.Proofs.Ytbpgaaecifnohaa
