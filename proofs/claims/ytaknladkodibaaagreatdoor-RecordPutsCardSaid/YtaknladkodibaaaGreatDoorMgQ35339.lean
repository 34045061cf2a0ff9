/- Layer 11: Split; the chapter's example. -/
import Derived.Test.YtaknladkodibaaaGreatDoorMgQ35333
import Derived.Lib.SmallJoins
import Derived.Test.YtaknladkodibaaaGreatDoorMgQ35316
import Derived.Test.YtaknladkodibaaaGreatDoorMgQ35311
namespace Go.Proofs.YtaknladkodibaaaGreatDoor
open Go.RowKit Go.Shelf

theorem cells_of_own7 {w : World} {base : Nat} {e : TypeId} {size : Nat} {A : Option Addr} {n c : Nat} {xs : List Value} (h : w.ownsRow base e size (.slice A n c) n xs) : Cells w w.heap.size A xs := fun hp => by
  obtain ⟨hlen, hor⟩ := h
  rcases hor with ⟨h1, h2⟩ | ⟨g, cap, cur, hv, _, hg, _, _, hcells⟩
  · subst h2; rw [Nat.zero_mul] at hlen; omega
  · injection hv with ha _ _
    refine ⟨g, 0, ha, (Array.getElem?_eq_some_iff.1 hg).1, fun j u hj => ?_⟩
    rw [Nat.zero_add, cell_of_row w g j _ _ _ hg]
    obtain ⟨_, ht⟩ := hcells
    rw [← ht, List.getElem?_take] at hj
    split at hj
    · rw [← Array.getElem?_toList]; exact hj
    · cases hj
theorem toks_few (bs : List UInt8) (lv : Int) : (toks bs lv 0).length ≤ bs.length := by
  have := toks_len bs lv 0
  omega
set_option maxHeartbeats 1000000 in
theorem split_any (A : Option Addr) (l c : Nat) (bs : List UInt8) (lv : Int) (w : World) (hl : bs.length = l) (hm : l ≤ 32000) (hcap : l ≤ c) (hb : Bytes w w.heap.size A bs) :
    Calls Tryz.prog 66 #[.slice A l c, .int .i64 lv] w fun e w' => ∃ A' c', e = .returned (.slice A' (toks bs lv 0).length c') ∧ Cells w' w'.heap.size A' ((toks bs lv 0).map tkC).flatten ∧ Below w.heap.size w w' := by
  obtain ⟨W1, hW1⟩ : ∃ W1, (w.alloc (.cells #[.slice A l c] 25)).alloc (.cells #[.int .i64 lv] 3) = W1 := ⟨_, rfl⟩
  have hz : W1.heap.size = w.heap.size + 2 := by rw [← hW1]; simp
  have hB1 : Below w.heap.size w W1 := by rw [← hW1]; exact ((Below.refl _ w).alloc (Nat.le_refl _) _).alloc (by simp) _
  have h1 : W1.heap[w.heap.size]? = some (.cells #[.slice A l c] 25) := by rw [← hW1]; exact alloc_keep (heap_alloc_new w _) _
  have h2 : W1.heap[w.heap.size + 1]? = some (.cells #[.int .i64 lv] 3) := by
    rw [← hW1]
    have h := heap_alloc_new (w.alloc (.cells #[.slice A l c] 25)) (.cells #[.int .i64 lv] 3)
    rwa [World.size_alloc] at h
  have HC := Lib.hid (each_any A l c lv w)
  rw [hW1] at HC
  have HA := Lib.hid (appendSeqT_any 159 #[.pointer (some ⟨w.heap.size, 0, none⟩), .pointer (some ⟨w.heap.size + 1, 0, none⟩)] (toks bs lv 0) (by have := toks_few bs lv; omega) W1 (enters_of Tryz.func159 (by kernel_rfl) rfl)
    (fun Z hZ hsz ho => each_seq W1.heap.size W1.heap.size w.heap.size (w.heap.size + 1) A l c bs lv Z hl hm hcap ((hb.below (hB1.trans (hZ.mono (by omega))) (Nat.le_refl _)).more (by omega)) hZ.size hsz (by omega) (by omega) ho ((hZ.block _ (by omega)).trans h1) ((hZ.block _ (by omega)).trans h2)))
  have HCO : Hid (Calls Tryz.prog 112 #[.func (.func 159) #[] #[.pointer (some ⟨w.heap.size, 0, none⟩), .pointer (some ⟨w.heap.size + 1, 0, none⟩)]] W1 fun e w' => ∃ v, e = .returned v ∧ w'.ownsRow W1.heap.size 164 3 v (toks bs lv 0).length ((toks bs lv 0).map tkC).flatten ∧ Below W1.heap.size W1 w') := by
    show Calls _ _ _ _ _
    generalize toks bs lv 0 = L at HA ⊢
    clear hb
    go_enter Tryz.func112, Tryz.ntmps112
    go_wp2_with (go_at_call 158; refine HA.out.mono ?_; rintro e w5 ⟨v, rfl, ho, hb⟩; have HO := Lib.hid ho; have HBB := Lib.hid hb; clear ho hb)
    go_ret
    exact ⟨v, rfl, HO.out, HBB.out⟩
  have HB1 := Lib.hid hB1
  have HZ := Lib.hid hz
  clear hW1 hB1 h1 h2 HA hz hb
  generalize toks bs lv 0 = L at HCO ⊢
  go_enter Tryz.func66, Tryz.ntmps66
  go_wp2_with (first
    | (go_at_call 113; refine HC.out.mono ?_; rintro e w' ⟨rfl, rfl⟩)
    | (go_at_call 112; refine HCO.out.mono ?_; rintro e w5 ⟨v, rfl, ho, hb⟩; have HO := Lib.hid ho; have HBB := Lib.hid hb; clear ho hb))
  go_ret
  obtain ⟨A', c', rfl⟩ := own_form' HO.out
  exact ⟨A', c', rfl, cells_of_own7 HO.out, HB1.out.trans (HBB.out.mono (by have := HZ.out; omega))⟩
end Go.Proofs.YtaknladkodibaaaGreatDoor
/- Layer 11: the reference's Depth and Split. -/
namespace Go.Proofs.YtaknladkodibaaaGreatDoor
open Go.RowKit Go.Shelf

set_option maxHeartbeats 400000 in
theorem rdepth_any (lv : Int) (w : World) : Calls Tryz.prog 122 #[.int .i64 lv] w fun e w' => e = .returned (.int .i64 (depthN lv)) ∧ w = w' := by
  rcases level_cases lv with h | rfl | rfl | h
  · have HZ : Hid (depthN lv = 1) := if_pos h
    have t0 : decide (lv ≤ 0) = true := decide_eq_true h
    clear h
    go_enter Tryz.func122, Tryz.ntmps122
    go_wp2
    go_ret
    exact ⟨by rw [HZ.out]; rfl, rfl⟩
  · go_enter Tryz.func122, Tryz.ntmps122
    go_wp2
    go_ret
    exact ⟨rfl, rfl⟩
  · go_enter Tryz.func122, Tryz.ntmps122
    go_wp2
    go_ret
    exact ⟨rfl, rfl⟩
  · have HZ : Hid (depthN lv = 256) := by show _ = _; unfold depthN; rw [if_neg (by omega), if_neg (by omega), if_neg (by omega)]
    have t0 : decide (lv ≤ 0) = false := decide_eq_false (by omega)
    have t1 : (lv == 1) = false := by simp; omega
    have t2 : (lv == 2) = false := by simp; omega
    clear h
    go_enter Tryz.func122, Tryz.ntmps122
    go_wp2
    go_ret
    exact ⟨by rw [HZ.out]; rfl, rfl⟩
set_option maxRecDepth 100000 in
set_option maxHeartbeats 4000000 in
theorem rsplit_any (A : Option Addr) (l c : Nat) (bs : List UInt8) (lv : Int) (w : World) (hl : bs.length = l) (hm : l ≤ 32000) (hb : Bytes w w.heap.size A bs) :
    Calls Tryz.prog 74 #[.slice A l c, .int .i64 lv] w fun e w' => ∃ A' c', e = .returned (.slice A' (toks bs lv 0).length c') ∧ Cells w' w'.heap.size A' ((toks bs lv 0).map tkC).flatten ∧ Below w.heap.size w w' := by
  have HL := Lib.hid hl
  have HBY := Lib.hid hb
  have HDP := Lib.hid (fun W => rdepth_any lv W)
  have hdb := depthN_bd lv
  have HRB := Lib.hid (fun (a : Int) (Z : World) (h : Below w.heap.size w Z) => rbest_any A l c bs a (depthN lv) w.heap.size Z hl (by omega) (hb.below h (Nat.le_refl _)) (by omega))
  clear hb hl
  go_enter Tryz.func74, Tryz.ntmps74
  go_wp2
  go_loopg [5, 6] (l + 259) (fun gk s5 s6 wr => ∃ (p : Nat) (pre : List Tk) (v : Value), p + gk = l + 259 ∧ s5 = v ∧ s6 = .int .i64 (p : Int) ∧ toks bs lv 0 = pre ++ toks bs lv p ∧ p ≤ l + 258 ∧ wr.ownsRow w.heap.size 164 3 v pre.length (pre.map tkC).flatten ∧ Below w.heap.size w wr)
  case atStart => exact ⟨0, [], .slice none 0 0, by omega, rfl, rfl, rfl, by omega, World.ownsRow_nil _ _ _ _, Below.refl _ _⟩
  case round =>
    obtain ⟨p, pre, v, hpg, rfl, rfl, htk, hpl, hrow, hbl⟩ := hrel
    obtain ⟨Av, cv, hv⟩ := own_form' hrow
    subst hv
    have HT := Lib.hid htk
    have HROW := Lib.hid hrow
    have HBL := Lib.hid hbl
    clear htk hrow hbl
    by_cases hp : p < l
    · have t0 : decide ((p : Int) < (l : Int)) = true := decide_eq_true (by omega)
      obtain ⟨n, hn⟩ : ∃ n, (bestM bs (p : Int) (depthN lv)).1 = n := ⟨_, rfl⟩
      obtain ⟨d, hd⟩ : ∃ d, (bestM bs (p : Int) (depthN lv)).2 = d := ⟨_, rfl⟩
      obtain ⟨m, hmm⟩ : ∃ m, (bestM bs ((p + 1 : Nat) : Int) (depthN lv)).1 = m := ⟨_, rfl⟩
      obtain ⟨d2, hd2⟩ : ∃ d, (bestM bs ((p + 1 : Nat) : Int) (depthN lv)).2 = d := ⟨_, rfl⟩
      obtain ⟨x, hx⟩ : ∃ x, bs[p]? = some x := ⟨_, List.getElem?_eq_getElem (by have := HL.out; omega)⟩
      have hgx : bs.getD p 0 = x := by rw [List.getD, hx]; rfl
      have HTA : Hid (tokAt bs lv p = if n = 0 ∨ (1 < lv ∧ n < 258 ∧ n < m) then (x, 0, 0) else (0, n, d)) := by show _ = _; rw [tokAt, hn, hd, hmm, hgx]
      have HTS := Lib.hid (toks_step (bs := bs) (lv := lv) (p := p) (by rw [HL.out]; exact hp))
      have hn258 : n ≤ 258 := by rw [← hn]; exact bestM_le _ _ _
      have HR1 := Lib.hid (HRB.out (p : Int) wr HBL.out)
      rw [hn, hd] at HR1
      have HR2 : Hid (∀ Z, Below wr.heap.size wr Z → Calls Tryz.prog 121 #[.slice A l c, .int .i64 ((p + 1 : Nat) : Int), .int .i64 (depthN lv)] Z fun e w' => e = .returned (.tuple #[.int .i64 (m : Int), .int .i64 (d2 : Int)]) ∧ Below wr.heap.size wr w') := fun Z hZ => by
        have h := HRB.out ((p + 1 : Nat) : Int) Z (HBL.out.trans (hZ.mono HBL.out.size))
        rw [hmm, hd2] at h
        refine h.mono ?_
        rintro e w' ⟨h1, q, rfl⟩
        exact ⟨h1, ⟨hZ.os, hZ.tape, hZ.output, hZ.size, hZ.block⟩⟩
      obtain ⟨b, o, hAe, hbB, hc0⟩ := HBY.out (by rw [byteCells_length]; have := HL.out; omega)
      subst hAe
      have HCX : Hid (∀ Z, Below wr.heap.size wr Z → Z.cell? ⟨b, o + p, none⟩ = some (.int .u8 (x.toNat : Int))) := fun Z hZ => ((HBL.out.trans (hZ.mono HBL.out.size)).cell (p := ⟨b, o + p, none⟩) hbB).trans (hc0 _ _ (byteCells_get hx))
      have hwp : IntKind.i64.wrap ((p : Int) + 1) = (p : Int) + 1 := IntWalk.i64_in _ (by omega)
      have hprel : pre.length ≤ 32000 := by
        have h := toks_few bs lv
        have := HL.out
        rw [HT.out, List.length_append] at h
        omega
      have hbd : Hid (∀ Z : World, Z.heap.size = Z.heap.size) := fun _ => rfl
      clear hbd hn hd hmm hd2 hx hgx hc0
      by_cases hz : n = 0
      · have tz : ((n : Int) == 0) = true := by simp; omega
        have HTA2 : Hid (tokAt bs lv p = (x, 0, 0)) := by show _ = _; rw [HTA.out, if_pos (.inl hz)]
        have HSZ : Hid (tsz (x, 0, 0) = 1) := by show _ = _; unfold tsz; simp only; omega
        have hszp : 1 ≤ 1 := by omega
        clear hz
        go_wp2_with (first
          | (go_at_call 122; refine (HDP.out _).mono ?_; rintro e w' ⟨rfl, rfl⟩)
          | (go_at_call 121; refine HR1.out.mono ?_; clear HR1; rintro e w' ⟨rfl, q1, rfl⟩)
          | (go_at_call 121; refine (HR2.out _ ((Below.drewN (Below.refl _ wr) q1))).mono ?_; clear HR2; rintro e w5 ⟨rfl, hb5⟩; obtain ⟨W6, hW6⟩ : ∃ W6, w5.alloc (.cells #[.int .u8 0, .int .i64 (n : Int), .int .i64 (d : Int)] 164) = W6 := ⟨_, rfl⟩; have hx6 : W6.heap[w5.heap.size]? = some (.cells #[.int .u8 0, .int .i64 (n : Int), .int .i64 (d : Int)] 164) := (by rw [← hW6]; exact heap_alloc_new w5 _); have hb6 : Below wr.heap.size wr W6 := (by rw [← hW6]; exact hb5.alloc hb5.size _); obtain ⟨W7, hW7⟩ : ∃ W7, ((W6.setCell ⟨w5.heap.size, 0, none⟩ (.int .u8 (x.toNat : Int))).setCell ⟨w5.heap.size, 1, none⟩ (.int .i64 0)).setCell ⟨w5.heap.size, 2, none⟩ (.int .i64 0) = W7 := ⟨_, rfl⟩; have hx7 : W7.heap[w5.heap.size]? = some (.cells #[.int .u8 (x.toNat : Int), .int .i64 0, .int .i64 0] 164) := (by rw [← hW7]; exact heap_setCell_same _ w5.heap.size 2 _ _ _ (heap_setCell_same _ w5.heap.size 1 _ _ _ (heap_setCell_same _ w5.heap.size 0 _ _ _ hx6))); have hb7 : Below wr.heap.size wr W7 := (by rw [← hW7]; exact ((hb6.setCell (p := ⟨w5.heap.size, 0, none⟩) hb5.size _).setCell (p := ⟨w5.heap.size, 1, none⟩) hb5.size _).setCell (p := ⟨w5.heap.size, 2, none⟩) hb5.size _); have g0 := cell_of_row W6 w5.heap.size 0 _ _ _ hx6; have g1 := cell_of_row W6 w5.heap.size 1 _ _ _ hx6; have g2 := cell_of_row W6 w5.heap.size 2 _ _ _ hx6; have f0 := frozen_of_row W6 w5.heap.size 0 _ _ hx6; have f1 := frozen_of_row W6 w5.heap.size 1 _ _ hx6; have f2 := frozen_of_row W6 w5.heap.size 2 _ _ hx6; have y6 := HCX.out W6 hb6; have z0 : W7.cell? ⟨w5.heap.size, 0, none⟩ = some (.int .u8 (x.toNat : Int)) := cell_of_row W7 _ 0 _ _ _ hx7; have z1 : W7.cell? ⟨w5.heap.size, 1, none⟩ = some (.int .i64 0) := cell_of_row W7 _ 1 _ _ _ hx7; have z2 : W7.cell? ⟨w5.heap.size, 2, none⟩ = some (.int .i64 0) := cell_of_row W7 _ 2 _ _ _ hx7; have HX := Lib.hid hx7; have HBX := Lib.hid hb7; have HS5 := Lib.hid hb5.size; clear hb5 hx6 hb6 hx7 hb7)
          | (at_builtin; refine wpList_app _ tokElem rfl _ _ rfl w.heap.size (.slice Av pre.length cv) pre.length _ rfl ((own_keep HROW.out (Mod.of_below HBX.out) (fun _ _ h => h)).alloc _) (W7.heap.size + 1) (some ⟨W7.heap.size, 0, none⟩) 1 1 (tkC (x, 0, 0)) rfl rfl (tkC_cells W7 (x, 0, 0)) (tkC_one _) (by unfold maxLen; omega) (by omega) (by have := HBX.out.size; have := HBL.out.size; simp; omega) ?_; intro A8 c8 w8 hap; have hg8 : w8.heap[w5.heap.size]? = _ := (hap.grow.block w5.heap.size (by have := (Array.getElem?_eq_some_iff.1 HX.out).1; simp; omega) (fun e => by have := own_lt HROW.out w5.heap.size e.symm; have := HS5.out; omega)).trans ((Below.heap_alloc W7 _ w5.heap.size (Array.getElem?_eq_some_iff.1 HX.out).1).trans HX.out); have q0 := cell_of_row w8 w5.heap.size 0 _ _ _ hg8; have q1 := cell_of_row w8 w5.heap.size 1 _ _ _ hg8; have q2 := cell_of_row w8 w5.heap.size 2 _ _ _ hg8; have HAP := Lib.hid hap; clear hap hg8))
        go_roundg (gk - 1)
        case measure => omega
        case rel =>
          refine ⟨p + 1, pre ++ [(x, 0, 0)], .slice A8 (pre.length + 1) c8, by omega, rfl, by go_num, by rw [HT.out, HTS.out, HTA2.out, HSZ.out]; simp, by omega, by simpa using HAP.out.own, ?_⟩
          exact (HAP.out.below ((HBL.out.trans (HBX.out.mono HBL.out.size)).alloc (by have := HBX.out.size; have := HBL.out.size; omega) _) (by have := HBX.out.size; have := HBL.out.size; simp; omega) (own_base HROW.out))
      · have tz : ((n : Int) == 0) = false := by simp; omega
        by_cases hlv : 1 < lv
        · have t1 : decide (1 < lv) = true := decide_eq_true hlv
          by_cases h258 : n < 258
          · have t2 : decide ((n : Int) < 258) = true := decide_eq_true (by omega)
            by_cases hnm : n < m
            · have t3 : decide ((n : Int) < (m : Int)) = true := decide_eq_true (by omega)
              have HTA2 : Hid (tokAt bs lv p = (x, 0, 0)) := by show _ = _; rw [HTA.out, if_pos (.inr ⟨hlv, h258, hnm⟩)]
              have HSZ : Hid (tsz (x, 0, 0) = 1) := by show _ = _; unfold tsz; simp only; omega
              have hszp : 1 ≤ 1 := by omega
              go_wp2_with (first
                | (go_at_call 122; refine (HDP.out _).mono ?_; rintro e w' ⟨rfl, rfl⟩)
                | (go_at_call 121; refine HR1.out.mono ?_; clear HR1; rintro e w' ⟨rfl, q1, rfl⟩)
                | (go_at_call 121; refine (HR2.out _ ((Below.drewN (Below.refl _ wr) q1))).mono ?_; clear HR2; rintro e w5 ⟨rfl, hb5⟩; obtain ⟨W6, hW6⟩ : ∃ W6, w5.alloc (.cells #[.int .u8 0, .int .i64 (n : Int), .int .i64 (d : Int)] 164) = W6 := ⟨_, rfl⟩; have hx6 : W6.heap[w5.heap.size]? = some (.cells #[.int .u8 0, .int .i64 (n : Int), .int .i64 (d : Int)] 164) := (by rw [← hW6]; exact heap_alloc_new w5 _); have hb6 : Below wr.heap.size wr W6 := (by rw [← hW6]; exact hb5.alloc hb5.size _); obtain ⟨W7, hW7⟩ : ∃ W7, ((W6.setCell ⟨w5.heap.size, 0, none⟩ (.int .u8 (x.toNat : Int))).setCell ⟨w5.heap.size, 1, none⟩ (.int .i64 0)).setCell ⟨w5.heap.size, 2, none⟩ (.int .i64 0) = W7 := ⟨_, rfl⟩; have hx7 : W7.heap[w5.heap.size]? = some (.cells #[.int .u8 (x.toNat : Int), .int .i64 0, .int .i64 0] 164) := (by rw [← hW7]; exact heap_setCell_same _ w5.heap.size 2 _ _ _ (heap_setCell_same _ w5.heap.size 1 _ _ _ (heap_setCell_same _ w5.heap.size 0 _ _ _ hx6))); have hb7 : Below wr.heap.size wr W7 := (by rw [← hW7]; exact ((hb6.setCell (p := ⟨w5.heap.size, 0, none⟩) hb5.size _).setCell (p := ⟨w5.heap.size, 1, none⟩) hb5.size _).setCell (p := ⟨w5.heap.size, 2, none⟩) hb5.size _); have g0 := cell_of_row W6 w5.heap.size 0 _ _ _ hx6; have g1 := cell_of_row W6 w5.heap.size 1 _ _ _ hx6; have g2 := cell_of_row W6 w5.heap.size 2 _ _ _ hx6; have f0 := frozen_of_row W6 w5.heap.size 0 _ _ hx6; have f1 := frozen_of_row W6 w5.heap.size 1 _ _ hx6; have f2 := frozen_of_row W6 w5.heap.size 2 _ _ hx6; have y6 := HCX.out W6 hb6; have z0 : W7.cell? ⟨w5.heap.size, 0, none⟩ = some (.int .u8 (x.toNat : Int)) := cell_of_row W7 _ 0 _ _ _ hx7; have z1 : W7.cell? ⟨w5.heap.size, 1, none⟩ = some (.int .i64 0) := cell_of_row W7 _ 1 _ _ _ hx7; have z2 : W7.cell? ⟨w5.heap.size, 2, none⟩ = some (.int .i64 0) := cell_of_row W7 _ 2 _ _ _ hx7; have HX := Lib.hid hx7; have HBX := Lib.hid hb7; have HS5 := Lib.hid hb5.size; clear hb5 hx6 hb6 hx7 hb7)
                | (at_builtin; refine wpList_app _ tokElem rfl _ _ rfl w.heap.size (.slice Av pre.length cv) pre.length _ rfl ((own_keep HROW.out (Mod.of_below HBX.out) (fun _ _ h => h)).alloc _) (W7.heap.size + 1) (some ⟨W7.heap.size, 0, none⟩) 1 1 (tkC (x, 0, 0)) rfl rfl (tkC_cells W7 (x, 0, 0)) (tkC_one _) (by unfold maxLen; omega) (by omega) (by have := HBX.out.size; have := HBL.out.size; simp; omega) ?_; intro A8 c8 w8 hap; have hg8 : w8.heap[w5.heap.size]? = _ := (hap.grow.block w5.heap.size (by have := (Array.getElem?_eq_some_iff.1 HX.out).1; simp; omega) (fun e => by have := own_lt HROW.out w5.heap.size e.symm; have := HS5.out; omega)).trans ((Below.heap_alloc W7 _ w5.heap.size (Array.getElem?_eq_some_iff.1 HX.out).1).trans HX.out); have q0 := cell_of_row w8 w5.heap.size 0 _ _ _ hg8; have q1 := cell_of_row w8 w5.heap.size 1 _ _ _ hg8; have q2 := cell_of_row w8 w5.heap.size 2 _ _ _ hg8; have HAP := Lib.hid hap; clear hap hg8))
              go_roundg (gk - 1)
              case measure => omega
              case rel =>
                refine ⟨p + 1, pre ++ [(x, 0, 0)], .slice A8 (pre.length + 1) c8, by omega, rfl, by go_num, by rw [HT.out, HTS.out, HTA2.out, HSZ.out]; simp, by omega, by simpa using HAP.out.own, ?_⟩
                exact (HAP.out.below ((HBL.out.trans (HBX.out.mono HBL.out.size)).alloc (by have := HBX.out.size; have := HBL.out.size; omega) _) (by have := HBX.out.size; have := HBL.out.size; simp; omega) (own_base HROW.out))
            · have t3 : decide ((n : Int) < (m : Int)) = false := decide_eq_false (by omega)
              have HTA2 : Hid (tokAt bs lv p = (0, n, d)) := by show _ = _; rw [HTA.out, if_neg (by omega)]
              have HSZ : Hid (tsz (0, n, d) = n) := by show _ = _; unfold tsz; simp only; omega
              have hszp : 1 ≤ n := by omega
              go_wp2_with (first
                | (go_at_call 122; refine (HDP.out _).mono ?_; rintro e w' ⟨rfl, rfl⟩)
                | (go_at_call 121; refine HR1.out.mono ?_; clear HR1; rintro e w' ⟨rfl, q1, rfl⟩)
                | (go_at_call 121; refine (HR2.out _ ((Below.drewN (Below.refl _ wr) q1))).mono ?_; clear HR2; rintro e w5 ⟨rfl, hb5⟩; obtain ⟨W6, hW6⟩ : ∃ W6, w5.alloc (.cells #[.int .u8 0, .int .i64 (n : Int), .int .i64 (d : Int)] 164) = W6 := ⟨_, rfl⟩; have hx6 : W6.heap[w5.heap.size]? = some (.cells #[.int .u8 0, .int .i64 (n : Int), .int .i64 (d : Int)] 164) := (by rw [← hW6]; exact heap_alloc_new w5 _); have hb6 : Below wr.heap.size wr W6 := (by rw [← hW6]; exact hb5.alloc hb5.size _); have hz6 := hx6; have z0 : W6.cell? ⟨w5.heap.size, 0, none⟩ = some (.int .u8 0) := cell_of_row W6 _ 0 _ _ _ hx6; have z1 : W6.cell? ⟨w5.heap.size, 1, none⟩ = some (.int .i64 (n : Int)) := cell_of_row W6 _ 1 _ _ _ hx6; have z2 : W6.cell? ⟨w5.heap.size, 2, none⟩ = some (.int .i64 (d : Int)) := cell_of_row W6 _ 2 _ _ _ hx6; have HX := Lib.hid hx6; have HBX := Lib.hid hb6; have HS5 := Lib.hid hb5.size; clear hb5 hx6 hb6 hz6)
                | (at_builtin; refine wpList_app _ tokElem rfl _ _ rfl w.heap.size (.slice Av pre.length cv) pre.length _ rfl ((own_keep HROW.out (Mod.of_below HBX.out) (fun _ _ h => h)).alloc _) (W6.heap.size + 1) (some ⟨W6.heap.size, 0, none⟩) 1 1 (tkC (0, n, d)) rfl rfl (tkC_cells W6 (0, n, d)) (tkC_one _) (by unfold maxLen; omega) (by omega) (by have := HBX.out.size; have := HBL.out.size; simp; omega) ?_; intro A8 c8 w8 hap; have hg8 : w8.heap[w5.heap.size]? = _ := (hap.grow.block w5.heap.size (by have := (Array.getElem?_eq_some_iff.1 HX.out).1; simp; omega) (fun e => by have := own_lt HROW.out w5.heap.size e.symm; have := HS5.out; omega)).trans ((Below.heap_alloc W6 _ w5.heap.size (Array.getElem?_eq_some_iff.1 HX.out).1).trans HX.out); have q0 := cell_of_row w8 w5.heap.size 0 _ _ _ hg8; have q1 := cell_of_row w8 w5.heap.size 1 _ _ _ hg8; have q2 := cell_of_row w8 w5.heap.size 2 _ _ _ hg8; have HAP := Lib.hid hap; clear hap hg8))
              go_roundg (gk - n)
              case measure => omega
              case rel =>
                refine ⟨p + n, pre ++ [(0, n, d)], .slice A8 (pre.length + 1) c8, by omega, rfl, by go_num, by rw [HT.out, HTS.out, HTA2.out, HSZ.out]; simp, by omega, by simpa using HAP.out.own, ?_⟩
                exact (HAP.out.below ((HBL.out.trans (HBX.out.mono HBL.out.size)).alloc (by have := HBX.out.size; have := HBL.out.size; omega) _) (by have := HBX.out.size; have := HBL.out.size; simp; omega) (own_base HROW.out))
          · have t2 : decide ((n : Int) < 258) = false := decide_eq_false (by omega)
            have HTA2 : Hid (tokAt bs lv p = (0, n, d)) := by show _ = _; rw [HTA.out, if_neg (by omega)]
            have HSZ : Hid (tsz (0, n, d) = n) := by show _ = _; unfold tsz; simp only; omega
            have hszp : 1 ≤ n := by omega
            go_wp2_with (first
              | (go_at_call 122; refine (HDP.out _).mono ?_; rintro e w' ⟨rfl, rfl⟩)
              | (go_at_call 121; refine HR1.out.mono ?_; clear HR1; rintro e w' ⟨rfl, q1, rfl⟩)
              | (go_at_call 121; refine (HR2.out _ ((Below.drewN (Below.refl _ wr) q1))).mono ?_; clear HR2; rintro e w5 ⟨rfl, hb5⟩; obtain ⟨W6, hW6⟩ : ∃ W6, w5.alloc (.cells #[.int .u8 0, .int .i64 (n : Int), .int .i64 (d : Int)] 164) = W6 := ⟨_, rfl⟩; have hx6 : W6.heap[w5.heap.size]? = some (.cells #[.int .u8 0, .int .i64 (n : Int), .int .i64 (d : Int)] 164) := (by rw [← hW6]; exact heap_alloc_new w5 _); have hb6 : Below wr.heap.size wr W6 := (by rw [← hW6]; exact hb5.alloc hb5.size _); have hz6 := hx6; have z0 : W6.cell? ⟨w5.heap.size, 0, none⟩ = some (.int .u8 0) := cell_of_row W6 _ 0 _ _ _ hx6; have z1 : W6.cell? ⟨w5.heap.size, 1, none⟩ = some (.int .i64 (n : Int)) := cell_of_row W6 _ 1 _ _ _ hx6; have z2 : W6.cell? ⟨w5.heap.size, 2, none⟩ = some (.int .i64 (d : Int)) := cell_of_row W6 _ 2 _ _ _ hx6; have HX := Lib.hid hx6; have HBX := Lib.hid hb6; have HS5 := Lib.hid hb5.size; clear hb5 hx6 hb6 hz6)
              | (at_builtin; refine wpList_app _ tokElem rfl _ _ rfl w.heap.size (.slice Av pre.length cv) pre.length _ rfl ((own_keep HROW.out (Mod.of_below HBX.out) (fun _ _ h => h)).alloc _) (W6.heap.size + 1) (some ⟨W6.heap.size, 0, none⟩) 1 1 (tkC (0, n, d)) rfl rfl (tkC_cells W6 (0, n, d)) (tkC_one _) (by unfold maxLen; omega) (by omega) (by have := HBX.out.size; have := HBL.out.size; simp; omega) ?_; intro A8 c8 w8 hap; have hg8 : w8.heap[w5.heap.size]? = _ := (hap.grow.block w5.heap.size (by have := (Array.getElem?_eq_some_iff.1 HX.out).1; simp; omega) (fun e => by have := own_lt HROW.out w5.heap.size e.symm; have := HS5.out; omega)).trans ((Below.heap_alloc W6 _ w5.heap.size (Array.getElem?_eq_some_iff.1 HX.out).1).trans HX.out); have q0 := cell_of_row w8 w5.heap.size 0 _ _ _ hg8; have q1 := cell_of_row w8 w5.heap.size 1 _ _ _ hg8; have q2 := cell_of_row w8 w5.heap.size 2 _ _ _ hg8; have HAP := Lib.hid hap; clear hap hg8))
            go_roundg (gk - n)
            case measure => omega
            case rel =>
              refine ⟨p + n, pre ++ [(0, n, d)], .slice A8 (pre.length + 1) c8, by omega, rfl, by go_num, by rw [HT.out, HTS.out, HTA2.out, HSZ.out]; simp, by omega, by simpa using HAP.out.own, ?_⟩
              exact (HAP.out.below ((HBL.out.trans (HBX.out.mono HBL.out.size)).alloc (by have := HBX.out.size; have := HBL.out.size; omega) _) (by have := HBX.out.size; have := HBL.out.size; simp; omega) (own_base HROW.out))
        · have t1 : decide (1 < lv) = false := decide_eq_false hlv
          have HTA2 : Hid (tokAt bs lv p = (0, n, d)) := by show _ = _; rw [HTA.out, if_neg (by omega)]
          have HSZ : Hid (tsz (0, n, d) = n) := by show _ = _; unfold tsz; simp only; omega
          have hszp : 1 ≤ n := by omega
          go_wp2_with (first
            | (go_at_call 122; refine (HDP.out _).mono ?_; rintro e w' ⟨rfl, rfl⟩)
            | (go_at_call 121; refine HR1.out.mono ?_; clear HR1; rintro e w' ⟨rfl, q1, rfl⟩)
            | (go_at_call 121; refine (HR2.out _ ((Below.drewN (Below.refl _ wr) q1))).mono ?_; clear HR2; rintro e w5 ⟨rfl, hb5⟩; obtain ⟨W6, hW6⟩ : ∃ W6, w5.alloc (.cells #[.int .u8 0, .int .i64 (n : Int), .int .i64 (d : Int)] 164) = W6 := ⟨_, rfl⟩; have hx6 : W6.heap[w5.heap.size]? = some (.cells #[.int .u8 0, .int .i64 (n : Int), .int .i64 (d : Int)] 164) := (by rw [← hW6]; exact heap_alloc_new w5 _); have hb6 : Below wr.heap.size wr W6 := (by rw [← hW6]; exact hb5.alloc hb5.size _); have hz6 := hx6; have z0 : W6.cell? ⟨w5.heap.size, 0, none⟩ = some (.int .u8 0) := cell_of_row W6 _ 0 _ _ _ hx6; have z1 : W6.cell? ⟨w5.heap.size, 1, none⟩ = some (.int .i64 (n : Int)) := cell_of_row W6 _ 1 _ _ _ hx6; have z2 : W6.cell? ⟨w5.heap.size, 2, none⟩ = some (.int .i64 (d : Int)) := cell_of_row W6 _ 2 _ _ _ hx6; have HX := Lib.hid hx6; have HBX := Lib.hid hb6; have HS5 := Lib.hid hb5.size; clear hb5 hx6 hb6 hz6)
            | (at_builtin; refine wpList_app _ tokElem rfl _ _ rfl w.heap.size (.slice Av pre.length cv) pre.length _ rfl ((own_keep HROW.out (Mod.of_below HBX.out) (fun _ _ h => h)).alloc _) (W6.heap.size + 1) (some ⟨W6.heap.size, 0, none⟩) 1 1 (tkC (0, n, d)) rfl rfl (tkC_cells W6 (0, n, d)) (tkC_one _) (by unfold maxLen; omega) (by omega) (by have := HBX.out.size; have := HBL.out.size; simp; omega) ?_; intro A8 c8 w8 hap; have hg8 : w8.heap[w5.heap.size]? = _ := (hap.grow.block w5.heap.size (by have := (Array.getElem?_eq_some_iff.1 HX.out).1; simp; omega) (fun e => by have := own_lt HROW.out w5.heap.size e.symm; have := HS5.out; omega)).trans ((Below.heap_alloc W6 _ w5.heap.size (Array.getElem?_eq_some_iff.1 HX.out).1).trans HX.out); have q0 := cell_of_row w8 w5.heap.size 0 _ _ _ hg8; have q1 := cell_of_row w8 w5.heap.size 1 _ _ _ hg8; have q2 := cell_of_row w8 w5.heap.size 2 _ _ _ hg8; have HAP := Lib.hid hap; clear hap hg8))
          go_roundg (gk - n)
          case measure => omega
          case rel =>
            refine ⟨p + n, pre ++ [(0, n, d)], .slice A8 (pre.length + 1) c8, by omega, rfl, by go_num, by rw [HT.out, HTS.out, HTA2.out, HSZ.out]; simp, by omega, by simpa using HAP.out.own, ?_⟩
            exact (HAP.out.below ((HBL.out.trans (HBX.out.mono HBL.out.size)).alloc (by have := HBX.out.size; have := HBL.out.size; omega) _) (by have := HBX.out.size; have := HBL.out.size; simp; omega) (own_base HROW.out))
    · have t0 : decide ((p : Int) < (l : Int)) = false := decide_eq_false (by omega)
      have HE := Lib.hid (toks_end (bs := bs) (lv := lv) (p := p) (by rw [HL.out]; omega))
      have HPE : Hid (toks bs lv 0 = pre) := by show _ = _; rw [HT.out, HE.out, List.append_nil]
      go_wp2
      go_ret
      exact ⟨Av, cv, by rw [HPE.out]; rfl, by rw [HPE.out]; exact cells_of_own7 HROW.out, HBL.out⟩
end Go.Proofs.YtaknladkodibaaaGreatDoor
/- Layer 11: the law TokensSplits. -/
namespace Go.Proofs.YtaknladkodibaaaGreatDoor
open Go.RowKit Go.Shelf

theorem tkC_len (L : List Tk) : ∀ r ∈ L, (tkC r).length = 3 := fun _ _ => rfl
end Go.Proofs.YtaknladkodibaaaGreatDoor
