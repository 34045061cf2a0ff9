/- Layer 14: a payload is made: the document's answer; the law. -/
import Derived.Test.YtaknladkodibaaaGreatMgQ21550
import Derived.Test.YtaknladkodibaaaGreatMgQ21539
import Derived.Test.YtaknladkodibaaaGreatMgQ215SBytesIn
import Derived.Test.YtaknladkodibaaaGreatMgQ21541
import Derived.Test.YtaknladkodibaaaGreatMgQ215SCdRe
import Derived.Test.YtaknladkodibaaaGreatMgQ215SStG
namespace Go.Proofs.YtaknladkodibaaaGreat
open Go.RowKit BitsP SymP
attribute [local go_sem ↓] Go.wp_at_zero Go.wp_at_succ

theorem byteInfo14 : (Tryz.prog.info? 5).map (fun i => (i.zero, i.size, i.bytes)) = some (some (.int .u8 0), 1, 1) := by kernel_rfl
theorem make_bytes14 (n : Nat) (hn : n ≤ 281474976710656) (W : World) :
    (Instr.makeSlice 23 (.int .i64 (n : Int)) (.int .i64 (n : Int))).run Tryz.prog W = .ok (.slice (some ⟨W.heap.size, 0, none⟩) n n) (W.alloc (.cells (madeCells #[.int .u8 0] n) 5)) := by
  obtain ⟨i0, hi, hz0, hz1, hz2⟩ := info_parts byteInfo14
  have h := run_make (P := Tryz.prog) W 23 5 i0 (.int .u8 0) Tryz.underlying23 hi hz0 .i64 .i64 n n (by omega) (Int.le_refl _) (by rw [hz2]; omega) (by omega)
  simp only [Int.toNat_natCast, hz1, Nat.mul_one] at h
  exact h
set_option maxRecDepth 100000 in
set_option maxHeartbeats 1000000 in
theorem lives14_any (w : World) : Calls Tryz.prog 4 #[] w fun e w' => e = .returned (.bool true) ∧ Below w.heap.size w w' := by
  have hb1 : Below w.heap.size w (w.alloc (.cells #[.int .u8 7] 5)) := (Below.refl _ w).alloc (Nat.le_refl _) _
  have hc1 : Bytes (w.alloc (.cells #[.int .u8 7] 5)) (w.alloc (.cells #[.int .u8 7] 5)).heap.size (some ⟨w.heap.size, 0, none⟩) [7] := fun _ =>
    ⟨w.heap.size, 0, rfl, by simp, fun j u hu => by rw [Nat.zero_add, cell_of_row _ _ j _ _ _ (heap_alloc_new w _), ← Array.getElem?_toList]; exact hu⟩
  have HP := Lib.hid (pack14_any (some ⟨w.heap.size, 0, none⟩) 1 1 [7] 3 _ rfl (by omega) (Nat.le_refl _) hc1)
  rw [pkM_7] at HP
  dsimp only at HP
  have HB1 := Lib.hid hb1
  clear hb1 hc1
  go_enter Tryz.func4, Tryz.ntmps4
  go_wp2_with (go_at_call 10; refine HP.out.mono ?_; rintro e w2 ⟨A2, c2, rfl, hown, hb2⟩; have k2 := str_any w2 A2 1 c2 _ [7] (Cells.of_own hown) rfl; have HB2 := Lib.hid (HB1.out.trans (hb2.mono HB1.out.size)); clear hown hb2)
  go_ret
  exact ⟨rfl, HB2.out⟩
end Go.Proofs.YtaknladkodibaaaGreat
/- Layer 14: pieces, and streamed payloads: the law. -/
namespace Go.Proofs.YtaknladkodibaaaGreat
open Go.RowKit CrcP FieldP
attribute [local go_sem ↓] Go.wp_at_zero Go.wp_at_succ

/-- The bytes of pieces, and how they end. -/
def pcsR (bs : List UInt8) : Int × List UInt8 := if (pcA bs).2 = 0 then (0, (pcA bs).1.flatten) else ((pcA bs).2, [])
def PcQ (w : World) (t : Int × List UInt8) (e : Ending) (w' : World) : Prop := ∃ A' c', e = .returned (.tuple #[.slice A' t.2.length c', .int .i64 t.1]) ∧ OwnB w' w.heap.size 5 (.slice A' t.2.length c') t.2.length t.2 ∧ Below w.heap.size w w'
theorem PcQ.of {w w' : World} {bs : List UInt8} {e : Ending} (h : PcPost bs w e w') : PcQ w (pcsR bs) e w' := by
  obtain ⟨v, n, cp, A', rfl, rfl, h1, h2, h3⟩ := h
  by_cases h0 : (pcA bs).2 = 0
  · rw [show pcsR bs = (0, (pcA bs).1.flatten) from if_pos h0]
    have ho := h1 h0
    have hn := ho.1
    rw [byteCells_length, Nat.mul_one] at hn
    rw [h0]
    unfold PcQ
    dsimp only
    rw [hn]
    exact ⟨A', cp, rfl, ho, h3⟩
  · rw [show pcsR bs = ((pcA bs).2, []) from if_neg h0]
    have hv := h2 h0
    simp only [Value.slice.injEq] at hv
    obtain ⟨rfl, rfl, rfl⟩ := hv
    exact ⟨none, 0, rfl, World.ownsRow_nil _ _ _ _, h3⟩
theorem sumP_few14 : ∀ (ls : List PcV) (m : Nat), (∀ x ∈ ls, x.1.length ≤ m) → sumP ls ≤ m * ls.length
  | [], m, _ => by simp [sumP]
  | x :: l, m, h => by
    have h1 := sumP_few14 l m (fun y hy => h y (by simp [hy]))
    have h2 := h x (by simp)
    simp only [sumP, List.map_cons, List.sum_cons, List.length_cons] at h1 ⊢
    rw [Nat.mul_add]
    omega
theorem big_at (w : World) :
    Calls Tryz.prog 7 #[.slice (some ⟨w.heap.size + 2, 0, none⟩) 2 2] (((w.alloc (.cells (madeCells #[.int .u8 0] 65536) 5)).alloc (.cells #[.int .u8 1] 5)).alloc (.cells #[.slice (some ⟨w.heap.size, 0, none⟩) 65536 65536, .slice (some ⟨w.heap.size + 1, 0, none⟩) 1 1] 23)) fun e w' => e = .returned (.tuple #[.slice none 0 0, .int .i64 5]) ∧ Below w.heap.size w w' := by
  obtain ⟨W1, hW1⟩ : ∃ W1, w.alloc (.cells (madeCells #[.int .u8 0] 65536) 5) = W1 := ⟨_, rfl⟩
  have hz1 : W1.heap.size = w.heap.size + 1 := by rw [← hW1]; simp
  have hb1 : Below w.heap.size w W1 := by rw [← hW1]; exact (Below.refl _ w).alloc (Nat.le_refl _) _
  have ho := own_made w w.heap.size 65536 (Nat.le_refl _) (by unfold maxLen; omega)
  rw [hW1] at ho ⊢
  obtain ⟨W2, hW2⟩ : ∃ W2, W1.alloc (.cells #[.int .u8 1] 5) = W2 := ⟨_, rfl⟩
  have hz2 : W2.heap.size = w.heap.size + 2 := by rw [← hW2]; simp [hz1]
  have hb2 : Below W1.heap.size W1 W2 := by rw [← hW2]; exact (Below.refl _ W1).alloc (Nat.le_refl _) _
  rw [hW2]
  have hb3 : Below W2.heap.size W2 (W2.alloc (.cells #[.slice (some ⟨w.heap.size, 0, none⟩) 65536 65536, .slice (some ⟨w.heap.size + 1, 0, none⟩) 1 1] 23)) := (Below.refl _ W2).alloc (Nat.le_refl _) _
  have hc := cells_two W2 (.slice (some ⟨w.heap.size, 0, none⟩) 65536 65536) (.slice (some ⟨w.heap.size + 1, 0, none⟩) 1 1) 23
  rw [hz2] at hc
  refine (stream_big (some ⟨w.heap.size + 2, 0, none⟩) _ _ 2 65536 1 (List.replicate 65536 0) _ hc ?_ (List.length_replicate ..) (Nat.le_refl _)).mono ?_
  · exact (((Cells.of_own ho).below hb2 (Nat.le_refl _)).below hb3 (by rw [hz1, hz2]; omega)).more (by simp [hz1, hz2])
  · rintro e w' ⟨rfl, hb4⟩
    exact ⟨rfl, ((hb1.trans (hb2.mono (by omega))).trans (hb3.mono (by omega))).trans (hb4.mono (by simp [hz2]; omega))⟩
set_option linter.unusedSimpArgs false in
set_option maxRecDepth 100000 in
set_option maxHeartbeats 2000000 in
theorem streams_law (A : Option Addr) (l c : Nat) (ls : List PcV) (AA : Option Addr) (la ca : Nat) (ar : List UInt8) (w : World) (hl : ls.length = l) (hr : RowsIn w A ls) (hla : ar.length = la) (hcap : la ≤ ca) (hba : Bytes w w.heap.size AA ar) :
    Calls Tryz.prog 3 #[.slice A l c, .slice AA la ca] w fun e w' => e = .returned (.bool true) ∧ Below w.heap.size w w' := by
  have HLV := Lib.hid lives14_any
  by_cases h20 : 20 < l
  · have hd : decide ((20 : Int) < (l : Int)) = true := decide_eq_true (by omega)
    clear hl hr hla hba
    go_enter Tryz.func3, Tryz.ntmps3
    go_wp2_with (go_at_call 4; refine (HLV.out _).mono ?_; rintro e w4 ⟨rfl, hb4⟩; have HB4 := Lib.hid hb4; clear hb4)
    go_ret
    exact ⟨rfl, HB4.out⟩
  have hd : decide ((20 : Int) < (l : Int)) = false := decide_eq_false (by omega)
  by_cases h30 : 3000 < la
  · have hd2 : decide ((3000 : Int) < (la : Int)) = true := decide_eq_true (by omega)
    clear hl hr hla hba
    go_enter Tryz.func3, Tryz.ntmps3
    go_wp2_with (go_at_call 4; refine (HLV.out _).mono ?_; rintro e w4 ⟨rfl, hb4⟩; have HB4 := Lib.hid hb4; clear hb4)
    go_ret
    exact ⟨rfl, HB4.out⟩
  have hd2 : decide ((3000 : Int) < (la : Int)) = false := decide_eq_false (by omega)
  have HL := Lib.hid hl
  have HR := Lib.hid hr
  have HLA := Lib.hid hla
  have HBA := Lib.hid hba
  have HSL := Lib.hid (fun i => pcsB_len (ls.take i))
  clear hl hr hla hba
  go_enter Tryz.func3, Tryz.ntmps3
  go_wp2
  go_loopg [5, 6] l (fun gk sa si wr => ∃ (i m : Nat) (Av : Option Addr) (cv : Nat), i + gk = l ∧ si = .int .i64 (i : Int) ∧ sa = .slice Av m cv ∧ m ≤ 3002 * i ∧ (∀ x ∈ ls.take i, x.1.length ≤ 3000) ∧ OwnB wr w.heap.size 5 (.slice Av m cv) m (pcsB (ls.take i)) ∧ Below w.heap.size w wr)
  case atStart => exact ⟨0, 0, none, 0, by omega, rfl, rfl, by omega, by simp, World.ownsRow_nil _ _ _ _, Below.refl _ _⟩
  case round =>
    obtain ⟨i, m, Av, cv, hi, rfl, rfl, hm3, hall, hown, hbel⟩ := hrel
    have HA := Lib.hid hall
    have HO := Lib.hid hown
    have HB := Lib.hid hbel
    clear hall hown hbel
    by_cases hil : i < l
    · obtain ⟨x, hx⟩ : ∃ x, ls[i]? = some x := ⟨_, List.getElem?_eq_getElem (by rw [HL.out]; exact hil)⟩
      have hrw := HR.out
      obtain ⟨b, o, rfl, hbB, hcc⟩ := hrw.row (by rw [List.length_map, HL.out]; omega)
      have ci0 : w.cell? ⟨b, o + i, none⟩ = some (pcC x) := hcc i _ (by rw [List.getElem?_map, hx]; rfl)
      have HU := Lib.hid (pcsB_up hx)
      have HTU := Lib.hid (take_up hx)
      have hex := hrw.each x (List.mem_of_getElem? hx)
      obtain ⟨r, A2, k2⟩ := x
      have HCI : Hid (∀ V, Below w.heap.size w V → V.cell? ⟨b, o + i, none⟩ = some (.slice A2 r.length k2)) := fun V hV => (hV.cell (p := ⟨b, o + i, none⟩) (by show b < _; omega)).trans ci0
      obtain ⟨rl, hrl⟩ : ∃ rl, r.length = rl := ⟨_, rfl⟩
      have HRL := Lib.hid hrl
      rw [hrl] at HCI
      have ci2 := HCI.out wr HB.out
      have hk2 : rl ≤ k2 := by rw [← hrl]; exact hex.2
      have HBR : Hid (∀ V, Below w.heap.size w V → Bytes V w.heap.size A2 r) := fun V hV => hex.1.below hV (Nat.le_refl _)
      clear hcc ci0 hx hbB hrl hrw hex
      by_cases h3 : 3000 < rl
      · have u1 : (3000 : Int) < (rl : Int) := by omega
        go_wp2_with (go_at_call 4; refine (HLV.out _).mono ?_; rintro e w4 ⟨rfl, hb4⟩; have HB4 := Lib.hid (HB.out.trans (hb4.mono HB.out.size)); clear hb4)
        go_ret
        exact ⟨rfl, HB4.out⟩
      · have u1 : ¬ (3000 : Int) < (rl : Int) := by omega
        have HRP : Hid (∀ W, Below w.heap.size w W → _) := fun W hW => rpiece_any A2 rl k2 w.heap.size r W HRL.out (by omega) hk2 (HBR.out W hW) hW.size
        have HPC : Hid (∀ W, Below w.heap.size w W → _) := fun W hW => piece_any A2 rl k2 w.heap.size r W HRL.out (by omega) hk2 (HBR.out W hW) hW.size
        obtain ⟨pb, hpb⟩ : ∃ pb, pieceB r = pb := ⟨_, rfl⟩
        have hpl : pb.length ≤ rl + 2 := by rw [← hpb, ← HRL.out]; exact pieceB_len r
        rw [hpb] at HRP HPC
        obtain ⟨n3, hn3⟩ : ∃ n, pb.length = n := ⟨_, rfl⟩
        have HPL := Lib.hid hn3
        rw [hn3] at hpl
        obtain ⟨st, hS⟩ : ∃ str : ByteArray, (⟨pb.toArray⟩ : ByteArray) = str := ⟨_, rfl⟩
        have HSTR := Lib.hid hS
        have HPB := Lib.hid hpb
        clear hn3 hS hpb
        go_upto_region 10 with (go_at_call 5; refine (HRP.out wr HB.out).mono ?_; rintro e w3 ⟨A3, n3', c3, rfl, ho3, hb3⟩; have hn3 : n3' = n3 := (by have h1 := ho3.1; rw [byteCells_length, Nat.mul_one, HPL.out] at h1; exact h1.symm); subst hn3; have HO3 := Lib.hid ho3; have HB3 := Lib.hid (HB.out.trans (hb3.mono HB.out.size)); have HO3A : Hid (OwnB w3 w.heap.size 5 (.slice Av m cv) m (pcsB (ls.take i))) := own_keep HO.out (Mod.of_below hb3) (fun _ _ h => h); have ci3 := HCI.out w3 HB3.out; have kp := str_any w3 A3 n3' c3 _ _ (Cells.of_own ho3) HPL.out; rw [HSTR.out] at kp; clear ho3 hb3)
        have HB3D : Hid (Below w.heap.size w w3.drew) := HB3.out.drew
        have HC3D : Hid (Bytes w3.drew w3.drew.heap.size A3 pb) := Cells.of_own HO3.out
        have HO3AD : Hid (OwnB w3.drew w.heap.size 5 (.slice Av m cv) m (pcsB (ls.take i))) := HO3A.out
        have kpd := str_any w3.drew A3 n3' c3 _ _ HC3D.out HPL.out
        rw [HSTR.out] at kpd
        have HO3D : Hid (OwnB w3.drew wr.heap.size 5 (.slice A3 n3' c3) n3' pb) := HO3.out
        refine wp_region_noPanic (wp_region_held_drew (S := (fun V : World => V.cell? ⟨b, o + i, none⟩ = some (.slice A2 rl k2) ∧ (convert 23 9 (.slice A3 n3' c3)).run Tryz.prog V = .ok (.string st) V)) (by kernel_rfl) ⟨ci3, kpd⟩ (fun hHeld => ?_))
        (try simp only [Act.put, List.setIfInBounds_toArray, List.set_cons_zero, List.set_cons_succ])
        refine wpAnyH_take (i := 0) (v := ?_) (by simp only [List.getElem?_toArray, List.getElem?_cons_succ, List.getElem?_cons_zero]; rfl) (by kernel_rfl) (by kernel_rfl) (by kernel_rfl) (fun _ _ _ h => h) (Or.inl ⟨by rfl, ?_⟩) (by assumption) ?_
        rotate_left
        · intro w hSw; (try dsimp only at hSw); go_split_ands; go_simp; (try with_reducible rfl)
        (try simp only [Act.put, List.setIfInBounds_toArray, List.set_cons_zero, List.set_cons_succ])
        refine wpAnyH_take (i := 1) (v := ?_) (by simp only [List.getElem?_toArray, List.getElem?_cons_succ, List.getElem?_cons_zero]; rfl) (by kernel_rfl) (by kernel_rfl) (by kernel_rfl) (fun _ _ _ h => h) (Or.inl ⟨by rfl, ?_⟩) (by assumption) ?_
        rotate_left
        · intro w hSw; (try dsimp only at hSw); go_split_ands; go_simp; (try with_reducible rfl)
        (try simp only [Act.put, List.setIfInBounds_toArray, List.set_cons_zero, List.set_cons_succ])
        refine wpAnyH_take (i := 2) (v := ?_) (by simp only [List.getElem?_toArray, List.getElem?_cons_succ, List.getElem?_cons_zero]; rfl) (by kernel_rfl) (by kernel_rfl) (by kernel_rfl) (fun _ _ _ h => h) (Or.inl ⟨by rfl, ?_⟩) (by assumption) ?_
        rotate_left
        · intro w hSw; (try dsimp only at hSw); go_split_ands; go_simp; (try with_reducible rfl)
        (try simp only [Act.put, List.setIfInBounds_toArray, List.set_cons_zero, List.set_cons_succ])
        refine wpAnyH_take (i := 3) (v := ?_) (by simp only [List.getElem?_toArray, List.getElem?_cons_succ, List.getElem?_cons_zero]; rfl) (by kernel_rfl) (by kernel_rfl) (by kernel_rfl) (fun _ _ _ h => h) (Or.inl ⟨by rfl, ?_⟩) (by assumption) ?_
        rotate_left
        · intro w hSw; (try dsimp only at hSw); go_split_ands; go_simp; (try with_reducible rfl)
        (try simp only [Act.put, List.setIfInBounds_toArray, List.set_cons_zero, List.set_cons_succ])
        refine wpAnyH_take (i := 6) (v := ?_) (by simp only [List.getElem?_toArray, List.getElem?_cons_succ, List.getElem?_cons_zero]; rfl) (by kernel_rfl) (by kernel_rfl) (by kernel_rfl) (fun _ _ _ h => h) (Or.inl ⟨by rfl, ?_⟩) (by assumption) ?_
        rotate_left
        · intro w hSw; (try dsimp only at hSw); go_split_ands; go_simp; (try with_reducible rfl)
        (try simp only [Act.put, List.setIfInBounds_toArray, List.set_cons_zero, List.set_cons_succ])
        refine wpAnyH_take (i := 7) (v := ?_) (by simp only [List.getElem?_toArray, List.getElem?_cons_succ, List.getElem?_cons_zero]; rfl) (by kernel_rfl) (by kernel_rfl) (by kernel_rfl) (fun _ _ _ h => h) (Or.inl ⟨by rfl, ?_⟩) (by assumption) ?_
        rotate_left
        · intro w hSw; (try dsimp only at hSw); go_split_ands; go_simp; (try with_reducible rfl)
        (try simp only [Act.put, List.setIfInBounds_toArray, List.set_cons_zero, List.set_cons_succ])
        refine wpAnyH_ready (rs := [4]) (by kernel_rfl) (by simp) ?_
        refine AllReadyH.cons rfl (fun K hK => ?_) AllReadyH.nil
        go_simp
        refine (HPC.out w3.drew HB3D.out).mono ?_; rintro e w4 ⟨A4, n4, c4, rfl, ho4, hb4⟩; have hn4 : n4 = n3' := (by have h1 := ho4.1; rw [byteCells_length, HPL.out] at h1; exact h1.symm); subst hn4; have HB4 := Lib.hid (HB3D.out.trans (hb4.mono HB3D.out.size)); have ci4 : w4.cell? ⟨b, o + i, none⟩ = some (.slice A2 rl k2) := HCI.out w4 HB4.out; have HC34 := Lib.hid (HC3D.out.below hb4 (Nat.le_refl _)); have kp4 := str_any w4 A3 n4 c3 _ _ HC34.out HPL.out; have kq4 := str_any w4 A4 n4 c4 _ _ ho4.cells HPL.out; rw [HSTR.out] at kp4 kq4; have HO34 := Lib.hid (own_keep HO3D.out (Mod.of_below hb4) (fun _ _ h => h)); have HOA := Lib.hid (own_keep HO3AD.out (Mod.of_below hb4) (fun _ _ h => h)); clear ho4 hb4
        go_wp2_with fail
        refine hK.out _ _ ⟨ci4, kp4⟩ (fun hHeld => ?_)
        clear hK K
        (try simp only [Act.put, List.setIfInBounds_toArray, List.set_cons_zero, List.set_cons_succ])
        refine wpAnyH_change (S2 := (fun V : World => (V.cell? ⟨b, o + i, none⟩ = some (.slice A2 rl k2) ∧ (convert 23 9 (.slice A3 n4 c3)).run Tryz.prog V = .ok (.string st) V) ∧ (convert 23 9 (.slice A4 n4 c4)).run Tryz.prog V = .ok (.string st) V)) (fun _ h => h.1) _ _ _ _ ?_
        have hHeld2 := (And.intro (And.intro ci4 kp4) kq4)
        refine wpAnyH_take (i := 5) (v := ?_) (by simp only [List.getElem?_toArray, List.getElem?_cons_succ, List.getElem?_cons_zero]; rfl) (by kernel_rfl) (by kernel_rfl) (by kernel_rfl) (fun _ _ _ h => h) (Or.inl ⟨by rfl, ?_⟩) (by assumption) ?_
        rotate_left
        · intro w hSw; (try dsimp only at hSw); go_split_ands; go_simp; (try with_reducible rfl)
        (try simp only [Act.put, List.setIfInBounds_toArray, List.set_cons_zero, List.set_cons_succ])
        refine wpAnyH_take (i := 8) (v := ?_) (by simp only [List.getElem?_toArray, List.getElem?_cons_succ, List.getElem?_cons_zero]; rfl) (by kernel_rfl) (by kernel_rfl) (by kernel_rfl) (fun _ _ _ h => h) (Or.inl ⟨by rfl, ?_⟩) (by assumption) ?_
        rotate_left
        · intro w hSw; (try dsimp only at hSw); go_split_ands; go_simp; (try with_reducible rfl)
        (try simp only [Act.put, List.setIfInBounds_toArray, List.set_cons_zero, List.set_cons_succ])
        refine wpAnyH_done (by kernel_rfl) (NoPanic.normal ?_) _
        go_wp2_with (at_builtin; refine wpList_app w4 byteElem rfl (.tmp 52) (.tmp 53) rfl w.heap.size (.slice Av m cv) m (byteCells (pcsB (ls.take i))) rfl HOA.out w3.drew.heap.size A3 n4 c3 (byteCells pb) rfl (by rw [byteCells_length, HPL.out, Nat.mul_one]) HC34.out (byteCells_one _) (by unfold maxLen; omega) (by omega) HB4.out.size ?_; intro A7 c7 w7 hA; have HA7 := Lib.hid hA; clear hA)
        go_roundg (gk - 1)
        case measure => omega
        case rel =>
          refine ⟨i + 1, m + n4, A7, c7, by omega, by go_num, rfl, by omega, fun y hy => ?_, ?_, HA7.out.below HB4.out HB4.out.size (own_base HOA.out)⟩
          · rw [HTU.out] at hy
            rcases List.mem_append.1 hy with h | h
            · exact HA.out y h
            · obtain rfl : y = (r, A2, k2) := by simpa using h
              show r.length ≤ 3000
              rw [HRL.out]
              omega
          · have h := HA7.out.own
            rw [HU.out, HPB.out]
            unfold OwnB
            rw [byteCells_append]
            exact h
    · obtain rfl : i = l := by omega
      have htl : ls.take i = ls := by rw [← HL.out, List.take_length]
      have hall : ∀ x ∈ ls, x.1.length ≤ 3000 := fun x hx => HA.out x (by rw [htl]; exact hx)
      have hsm : sumP ls ≤ 65535 := by
        have h1 := sumP_few14 ls 3000 hall
        have h2 := HL.out
        omega
      have HST := Lib.hid (stream_any A i c ls wr HL.out (by omega) (HR.out.belowS HB.out) hsm)
      have HPA : Hid (∀ W, Below w.heap.size w W → Calls Tryz.prog 8 #[.slice AA la ca] W (PcQ W (pcsR ar))) := fun W hW => (piecesOf_any AA la ca w.heap.size ar W HLA.out (by omega) hcap (HBA.out.below hW (Nat.le_refl _)) hW.size).mono (fun e w' h => PcQ.of h)
      have HRA : Hid (∀ W, Below w.heap.size w W → Calls Tryz.prog 9 #[.slice AA la ca] W (PcQ W (pcsR ar))) := fun W hW => (refPieces_any AA la ca w.heap.size ar W HLA.out (by omega) hcap (HBA.out.below hW (Nat.le_refl _)) hW.size).mono (fun e w' h => PcQ.of h)
      obtain ⟨⟨er, R⟩, hR⟩ : ∃ T, pcsR ar = T := ⟨_, rfl⟩
      rw [hR] at HPA HRA
      unfold PcQ at HPA HRA
      dsimp only at HPA HRA
      obtain ⟨nr, hnr⟩ : ∃ n, R.length = n := ⟨_, rfl⟩
      have HNR := Lib.hid hnr
      rw [hnr] at HPA HRA
      rw [htl] at HO
      obtain ⟨pcs, hpcs⟩ : ∃ pcs, pcsB ls = pcs := ⟨_, rfl⟩
      rw [hpcs] at HST HO
      have HPM : Hid (pcs.length = m) := by have h1 := HO.out.1; rw [byteCells_length, Nat.mul_one] at h1; exact h1
      have HSM : Hid ((pcs ++ [0, 0]).length = m + 2) := by show _ = _; rw [List.length_append, HPM.out]; rfl
      obtain ⟨sp, hSp⟩ : ∃ str : ByteArray, (⟨(pcs ++ [0, 0]).toArray⟩ : ByteArray) = str := ⟨_, rfl⟩
      obtain ⟨sr, hSr⟩ : ∃ str : ByteArray, (⟨R.toArray⟩ : ByteArray) = str := ⟨_, rfl⟩
      have HSP := Lib.hid hSp
      have HSR := Lib.hid hSr
      have mk : ∀ W, (Instr.makeSlice 23 (.int .i64 65536) (.int .i64 65536)).run Tryz.prog W = .ok (.slice (some ⟨W.heap.size, 0, none⟩) 65536 65536) (W.alloc (.cells (madeCells #[.int .u8 0] 65536) 5)) := fun W => make_bytes14 65536 (by omega) W
      have HBIG := Lib.hid big_at
      clear hR hnr hSp hSr htl hall hsm hpcs HA HSL
      go_upto_region 17 with (first
        | (go_at_call 7; refine HST.out.mono ?_; clear HST; rintro e w2 ⟨A2, n2, c2, rfl, ho2, hb2⟩; have hn2 : n2 = m + 2 := (by have h1 := ho2.1; rw [byteCells_length, HSM.out] at h1; exact h1.symm); subst hn2; have HC2 := Lib.hid ho2; have HO2 := Lib.hid (own_keep HO.out (Mod.of_below hb2) (fun _ _ h => h)); have HB2S := Lib.hid hb2.size; have HB2 := Lib.hid (HB.out.trans (hb2.mono HB.out.size)); clear ho2 hb2)
        | (go_at_call 8; refine (HPA.out w2 HB2.out).mono ?_; rintro e w3 ⟨A3, c3, rfl, hc3, hb3⟩; have HC3 := Lib.hid hc3; have HC23 := Lib.hid (HC2.out.keep (Mod.of_below hb3) (fun _ _ h => h)); have HO3 := Lib.hid (own_keep HO2.out (Mod.of_below hb3) (fun _ _ h => h)); have HB3S := Lib.hid hb3.size; have HB3 := Lib.hid (HB2.out.trans (hb3.mono HB2.out.size)); clear hc3 hb3)
        | (go_at_call 9; refine (HRA.out w3 HB3.out).mono ?_; rintro e w4 ⟨A4, c4, rfl, hc4, hb4⟩; have HC4 := Lib.hid hc4; have HC24 := Lib.hid (HC23.out.keep (Mod.of_below hb4) (fun _ _ h => h)); have HC34 := Lib.hid (own_keep HC3.out (Mod.of_below hb4) (fun _ _ h => h)); have HO4 := Lib.hid (own_keep HO3.out (Mod.of_below hb4) (fun _ _ h => h)); have HB4 := Lib.hid (HB3.out.trans (hb4.mono HB3.out.size)); clear hc4 hb4)
        | (go_at_call 7; refine (HBIG.out w4).mono ?_; rintro e w5 ⟨rfl, hb5⟩; have HC5 := Lib.hid (own_keep HC4.out (Mod.of_below hb5) (fun _ _ h => h)); have HC25 := Lib.hid (HC24.out.keep (Mod.of_below hb5) (fun _ _ h => h)); have HC35 := Lib.hid (own_keep HC34.out (Mod.of_below hb5) (fun _ _ h => h)); have HO5 := Lib.hid (own_keep HO4.out (Mod.of_below hb5) (fun _ _ h => h)); have HB5 := Lib.hid (HB4.out.trans (hb5.mono HB4.out.size)); clear hb5))
      have kd2 := str_any w5.drew A2 (m + 2) c2 _ _ (OwnT.cells (w := w5.drew) HC25.out) HSM.out
      have kd3 := str_any w5.drew A3 nr c3 _ _ (Cells.of_own (w := w5.drew) HC35.out) HNR.out
      have kd4 := str_any w5.drew A4 nr c4 _ _ (Cells.of_own (w := w5.drew) HC5.out) HNR.out
      rw [HSP.out] at kd2
      rw [HSR.out] at kd3 kd4
      clear mk
      refine wp_region_noPanic (wp_region_held_drew (S := (fun V : World => (convert 23 9 (.slice A2 (m + 2) c2)).run Tryz.prog V = .ok (.string sp) V ∧ (convert 23 9 (.slice A3 nr c3)).run Tryz.prog V = .ok (.string sr) V ∧ (convert 23 9 (.slice A4 nr c4)).run Tryz.prog V = .ok (.string sr) V)) (by kernel_rfl) ⟨kd2, kd3, kd4⟩ (fun hHeld => ?_))
      (try simp only [Act.put, List.setIfInBounds_toArray, List.set_cons_zero, List.set_cons_succ])
      refine wpAnyH_take (i := 0) (v := ?_) (by simp only [List.getElem?_toArray, List.getElem?_cons_succ, List.getElem?_cons_zero]; rfl) (by kernel_rfl) (by kernel_rfl) (by kernel_rfl) (fun _ _ _ h => h) (Or.inl ⟨by rfl, ?_⟩) (by assumption) ?_
      rotate_left
      · intro w hSw; (try dsimp only at hSw); go_split_ands; go_simp; (try with_reducible rfl)
      (try simp only [Act.put, List.setIfInBounds_toArray, List.set_cons_zero, List.set_cons_succ])
      refine wpAnyH_take (i := 1) (v := ?_) (by simp only [List.getElem?_toArray, List.getElem?_cons_succ, List.getElem?_cons_zero]; rfl) (by kernel_rfl) (by kernel_rfl) (by kernel_rfl) (fun _ _ _ h => h) (Or.inl ⟨by rfl, ?_⟩) (by assumption) ?_
      rotate_left
      · intro w hSw; (try dsimp only at hSw); go_split_ands; go_simp; (try with_reducible rfl)
      (try simp only [Act.put, List.setIfInBounds_toArray, List.set_cons_zero, List.set_cons_succ])
      refine wpAnyH_take (i := 2) (v := ?_) (by simp only [List.getElem?_toArray, List.getElem?_cons_succ, List.getElem?_cons_zero]; rfl) (by kernel_rfl) (by kernel_rfl) (by kernel_rfl) (fun _ _ _ h => h) (Or.inl ⟨by rfl, ?_⟩) (by assumption) ?_
      rotate_left
      · intro w hSw; (try dsimp only at hSw); go_split_ands; go_simp; (try with_reducible rfl)
      (try simp only [Act.put, List.setIfInBounds_toArray, List.set_cons_zero, List.set_cons_succ])
      refine wpAnyH_take (i := 3) (v := ?_) (by simp only [List.getElem?_toArray, List.getElem?_cons_succ, List.getElem?_cons_zero]; rfl) (by kernel_rfl) (by kernel_rfl) (by kernel_rfl) (fun _ _ _ h => h) (Or.inl ⟨by rfl, ?_⟩) (by assumption) ?_
      rotate_left
      · intro w hSw; (try dsimp only at hSw); go_split_ands; go_simp; (try with_reducible rfl)
      (try simp only [Act.put, List.setIfInBounds_toArray, List.set_cons_zero, List.set_cons_succ])
      refine wpAnyH_take (i := 4) (v := ?_) (by simp only [List.getElem?_toArray, List.getElem?_cons_succ, List.getElem?_cons_zero]; rfl) (by kernel_rfl) (by kernel_rfl) (by kernel_rfl) (fun _ _ _ h => h) (Or.inl ⟨by rfl, ?_⟩) (by assumption) ?_
      rotate_left
      · intro w hSw; (try dsimp only at hSw); go_split_ands; go_simp; (try with_reducible rfl)
      (try simp only [Act.put, List.setIfInBounds_toArray, List.set_cons_zero, List.set_cons_succ])
      refine wpAnyH_take (i := 5) (v := ?_) (by simp only [List.getElem?_toArray, List.getElem?_cons_succ, List.getElem?_cons_zero]; rfl) (by kernel_rfl) (by kernel_rfl) (by kernel_rfl) (fun _ _ _ h => h) (Or.inl ⟨by rfl, ?_⟩) (by assumption) ?_
      rotate_left
      · intro w hSw; (try dsimp only at hSw); go_split_ands; go_simp; (try with_reducible rfl)
      (try simp only [Act.put, List.setIfInBounds_toArray, List.set_cons_zero, List.set_cons_succ])
      refine wpAnyH_ready (rs := [6]) (by kernel_rfl) (by simp) ?_
      refine AllReadyH.cons rfl (fun K hK => ?_) AllReadyH.nil
      go_simp
      obtain ⟨W6, hW6⟩ : ∃ W6, (w5.alloc (.cells #[.int .u8 0, .int .u8 0] 5)).drew = W6 := ⟨_, rfl⟩
      have hz6 : W6.heap.size = w5.heap.size + 1 := by rw [← hW6]; simp
      have hb6 : Below w5.heap.size w5 W6 := by rw [← hW6]; exact ((Below.refl _ w5).alloc (Nat.le_refl _) _).drew
      have HL6 : Hid (Cells W6 W6.heap.size (some ⟨w5.heap.size, 0, none⟩) [.int .u8 0, .int .u8 0]) := by show Cells _ _ _ _; rw [← hW6]; exact cells_two w5 _ _ _
      have HO6 : Hid (OwnB W6 w.heap.size 5 (.slice Av m cv) m pcs) := own_keep HO5.out (Mod.of_below hb6) (fun _ _ h => h)
      have HC6 := Lib.hid (own_keep HC5.out (Mod.of_below hb6) (fun _ _ h => h))
      have HC26 := Lib.hid (HC25.out.keep (Mod.of_below hb6) (fun _ _ h => h))
      have HC36 := Lib.hid (own_keep HC35.out (Mod.of_below hb6) (fun _ _ h => h))
      have HB6 := Lib.hid (HB5.out.trans (hb6.mono HB5.out.size))
      have kd2 := str_any W6 A2 (m + 2) c2 _ _ HC26.out.cells HSM.out
      have kd3 := str_any W6 A3 nr c3 _ _ (Cells.of_own HC36.out) HNR.out
      have kd4 := str_any W6 A4 nr c4 _ _ (Cells.of_own HC6.out) HNR.out
      rw [HSP.out] at kd2
      rw [HSR.out] at kd3 kd4
      rw [hW6]
      clear hW6 hz6 hb6
      refine hK.out _ _ ⟨kd2, kd3, kd4⟩ (fun hHeld => ?_)
      clear hK K
      (try simp only [Act.put, List.setIfInBounds_toArray, List.set_cons_zero, List.set_cons_succ])
      refine wpAnyH_ready (rs := [7]) (by kernel_rfl) (by simp) ?_
      refine AllReadyH.cons rfl (fun K hK => ?_) AllReadyH.nil
      refine step_appG W6 byteElem (by rfl) (.tmp 82) (.tmp 83) (some 84) rfl rfl w.heap.size (.slice Av m cv) m (byteCells pcs) rfl HO6.out W6.heap.size (some ⟨w5.heap.size, 0, none⟩) 2 2 _ rfl rfl HL6.out (by simp [Value.oneCell']) (by unfold maxLen; omega) (by omega) HB6.out.size ?_
      intro A7 c7 w7 hA
      have hmod := Mod.of_grown hA.grow
      have hlow : ∀ k, ownS (.slice Av m cv) k → k < wr.heap.size := fun k hk => own_lt HO.out k hk
      have HS2 := HB2S.out
      have HS3 := HB3S.out
      have HC27 := Lib.hid (HC26.out.keep hmod (fun k hk hk2 => by have h1 := (HC26.out.lt k hk).1; have h2 := hlow k hk2; omega))
      have HC37 := Lib.hid (own_keep HC36.out hmod (fun k hk hk2 => by have h1 := own_base HC36.out k hk; have h2 := hlow k hk2; omega))
      have HC7 := Lib.hid (own_keep HC6.out hmod (fun k hk hk2 => by have h1 := own_base HC6.out k hk; have h2 := hlow k hk2; omega))
      have HA7 : Hid (Cells w7 w7.heap.size A7 (byteCells (pcs ++ [0, 0]))) := by show Cells _ _ _ _; rw [byteCells_append]; exact Cells.of_own hA.own
      have HB7 := Lib.hid (hA.below HB6.out HB6.out.size (own_base HO6.out))
      have kd2 := str_any w7 A2 (m + 2) c2 _ _ HC27.out.cells HSM.out
      have kd3 := str_any w7 A3 nr c3 _ _ (Cells.of_own HC37.out) HNR.out
      have kd4 := str_any w7 A4 nr c4 _ _ (Cells.of_own HC7.out) HNR.out
      have kd5 := str_any w7 A7 (m + 2) c7 _ _ HA7.out HSM.out
      rw [HSP.out] at kd2 kd5
      rw [HSR.out] at kd3 kd4
      clear hA hmod hlow
      refine hK.out _ _ ⟨kd2, kd3, kd4⟩ (fun hHeld => ?_)
      clear hK K
      (try simp only [Act.put, List.setIfInBounds_toArray, List.set_cons_zero, List.set_cons_succ])
      refine wpAnyH_change (S2 := (fun V : World => ((convert 23 9 (.slice A2 (m + 2) c2)).run Tryz.prog V = .ok (.string sp) V ∧ (convert 23 9 (.slice A3 nr c3)).run Tryz.prog V = .ok (.string sr) V ∧ (convert 23 9 (.slice A4 nr c4)).run Tryz.prog V = .ok (.string sr) V) ∧ (convert 23 9 (.slice A7 (m + 2) c7)).run Tryz.prog V = .ok (.string sp) V)) (fun _ h => h.1) _ _ _ _ ?_
      have hHeld2 := (And.intro hHeld kd5)
      refine wpAnyH_take (i := 8) (v := ?_) (by simp only [List.getElem?_toArray, List.getElem?_cons_succ, List.getElem?_cons_zero]; rfl) (by kernel_rfl) (by kernel_rfl) (by kernel_rfl) (fun _ _ _ h => h) (Or.inl ⟨by rfl, ?_⟩) (by assumption) ?_
      rotate_left
      · intro w hSw; (try dsimp only at hSw); go_split_ands; go_simp; (try with_reducible rfl)
      (try simp only [Act.put, List.setIfInBounds_toArray, List.set_cons_zero, List.set_cons_succ])
      refine wpAnyH_take (i := 9) (v := ?_) (by simp only [List.getElem?_toArray, List.getElem?_cons_succ, List.getElem?_cons_zero]; rfl) (by kernel_rfl) (by kernel_rfl) (by kernel_rfl) (fun _ _ _ h => h) (Or.inl ⟨by rfl, ?_⟩) (by assumption) ?_
      rotate_left
      · intro w hSw; (try dsimp only at hSw); go_split_ands; go_simp; (try with_reducible rfl)
      (try simp only [Act.put, List.setIfInBounds_toArray, List.set_cons_zero, List.set_cons_succ])
      refine wpAnyH_take (i := 10) (v := ?_) (by simp only [List.getElem?_toArray, List.getElem?_cons_succ, List.getElem?_cons_zero]; rfl) (by kernel_rfl) (by kernel_rfl) (by kernel_rfl) (fun _ _ _ h => h) (Or.inl ⟨by rfl, ?_⟩) (by assumption) ?_
      rotate_left
      · intro w hSw; (try dsimp only at hSw); go_split_ands; go_simp; (try with_reducible rfl)
      (try simp only [Act.put, List.setIfInBounds_toArray, List.set_cons_zero, List.set_cons_succ])
      refine wpAnyH_take (i := 11) (v := ?_) (by simp only [List.getElem?_toArray, List.getElem?_cons_succ, List.getElem?_cons_zero]; rfl) (by kernel_rfl) (by kernel_rfl) (by kernel_rfl) (fun _ _ _ h => h) (Or.inl ⟨by rfl, ?_⟩) (by assumption) ?_
      rotate_left
      · intro w hSw; (try dsimp only at hSw); go_split_ands; go_simp; (try with_reducible rfl)
      (try simp only [Act.put, List.setIfInBounds_toArray, List.set_cons_zero, List.set_cons_succ])
      refine wpAnyH_take (i := 12) (v := ?_) (by simp only [List.getElem?_toArray, List.getElem?_cons_succ, List.getElem?_cons_zero]; rfl) (by kernel_rfl) (by kernel_rfl) (by kernel_rfl) (fun _ _ _ h => h) (Or.inl ⟨by rfl, ?_⟩) (by assumption) ?_
      rotate_left
      · intro w hSw; (try dsimp only at hSw); go_split_ands; go_simp; (try with_reducible rfl)
      (try simp only [Act.put, List.setIfInBounds_toArray, List.set_cons_zero, List.set_cons_succ])
      refine wpAnyH_take (i := 13) (v := ?_) (by simp only [List.getElem?_toArray, List.getElem?_cons_succ, List.getElem?_cons_zero]; rfl) (by kernel_rfl) (by kernel_rfl) (by kernel_rfl) (fun _ _ _ h => h) (Or.inl ⟨by rfl, ?_⟩) (by assumption) ?_
      rotate_left
      · intro w hSw; (try dsimp only at hSw); go_split_ands; go_simp; (try with_reducible rfl)
      (try simp only [Act.put, List.setIfInBounds_toArray, List.set_cons_zero, List.set_cons_succ])
      refine wpAnyH_take (i := 14) (v := ?_) (by simp only [List.getElem?_toArray, List.getElem?_cons_succ, List.getElem?_cons_zero]; rfl) (by kernel_rfl) (by kernel_rfl) (by kernel_rfl) (fun _ _ _ h => h) (Or.inl ⟨by rfl, ?_⟩) (by assumption) ?_
      rotate_left
      · intro w hSw; (try dsimp only at hSw); go_split_ands; go_simp; (try with_reducible rfl)
      (try simp only [Act.put, List.setIfInBounds_toArray, List.set_cons_zero, List.set_cons_succ])
      refine wpAnyH_take (i := 15) (v := ?_) (by simp only [List.getElem?_toArray, List.getElem?_cons_succ, List.getElem?_cons_zero]; rfl) (by kernel_rfl) (by kernel_rfl) (by kernel_rfl) (fun _ _ _ h => h) (Or.inl ⟨by rfl, ?_⟩) (by assumption) ?_
      rotate_left
      · intro w hSw; (try dsimp only at hSw); go_split_ands; go_simp; (try with_reducible rfl)
      (try simp only [Act.put, List.setIfInBounds_toArray, List.set_cons_zero, List.set_cons_succ])
      refine wpAnyH_take (i := 16) (v := ?_) (by simp only [List.getElem?_toArray, List.getElem?_cons_succ, List.getElem?_cons_zero]; rfl) (by kernel_rfl) (by kernel_rfl) (by kernel_rfl) (fun _ _ _ h => h) (Or.inl ⟨by rfl, ?_⟩) (by assumption) ?_
      rotate_left
      · intro w hSw; (try dsimp only at hSw); go_split_ands; go_simp; (try with_reducible rfl)
      (try simp only [Act.put, List.setIfInBounds_toArray, List.set_cons_zero, List.set_cons_succ])
      refine wpAnyH_take (i := 17) (v := ?_) (by simp only [List.getElem?_toArray, List.getElem?_cons_succ, List.getElem?_cons_zero]; rfl) (by kernel_rfl) (by kernel_rfl) (by kernel_rfl) (fun _ _ _ h => h) (Or.inl ⟨by rfl, ?_⟩) (by assumption) ?_
      rotate_left
      · intro w hSw; (try dsimp only at hSw); go_split_ands; go_simp; (try with_reducible rfl)
      (try simp only [Act.put, List.setIfInBounds_toArray, List.set_cons_zero, List.set_cons_succ])
      refine wpAnyH_take (i := 18) (v := ?_) (by simp only [List.getElem?_toArray, List.getElem?_cons_succ, List.getElem?_cons_zero]; rfl) (by kernel_rfl) (by kernel_rfl) (by kernel_rfl) (fun _ _ _ h => h) (Or.inl ⟨by rfl, ?_⟩) (by assumption) ?_
      rotate_left
      · intro w hSw; (try dsimp only at hSw); go_split_ands; go_simp; (try with_reducible rfl)
      (try simp only [Act.put, List.setIfInBounds_toArray, List.set_cons_zero, List.set_cons_succ])
      refine wpAnyH_take (i := 19) (v := ?_) (by simp only [List.getElem?_toArray, List.getElem?_cons_succ, List.getElem?_cons_zero]; rfl) (by kernel_rfl) (by kernel_rfl) (by kernel_rfl) (fun _ _ _ h => h) (Or.inl ⟨by rfl, ?_⟩) (by assumption) ?_
      rotate_left
      · intro w hSw; (try dsimp only at hSw); go_split_ands; go_simp; (try with_reducible rfl)
      (try simp only [Act.put, List.setIfInBounds_toArray, List.set_cons_zero, List.set_cons_succ])
      refine wpAnyH_take (i := 20) (v := ?_) (by simp only [List.getElem?_toArray, List.getElem?_cons_succ, List.getElem?_cons_zero]; rfl) (by kernel_rfl) (by kernel_rfl) (by kernel_rfl) (fun _ _ _ h => h) (Or.inl ⟨by rfl, ?_⟩) (by assumption) ?_
      rotate_left
      · intro w hSw; (try dsimp only at hSw); go_split_ands; go_simp; (try with_reducible rfl)
      (try simp only [Act.put, List.setIfInBounds_toArray, List.set_cons_zero, List.set_cons_succ])
      refine wpAnyH_take (i := 21) (v := ?_) (by simp only [List.getElem?_toArray, List.getElem?_cons_succ, List.getElem?_cons_zero]; rfl) (by kernel_rfl) (by kernel_rfl) (by kernel_rfl) (fun _ _ _ h => h) (Or.inl ⟨by rfl, ?_⟩) (by assumption) ?_
      rotate_left
      · intro w hSw; (try dsimp only at hSw); go_split_ands; go_simp; (try with_reducible rfl)
      (try simp only [Act.put, List.setIfInBounds_toArray, List.set_cons_zero, List.set_cons_succ])
      refine wpAnyH_take (i := 22) (v := ?_) (by simp only [List.getElem?_toArray, List.getElem?_cons_succ, List.getElem?_cons_zero]; rfl) (by kernel_rfl) (by kernel_rfl) (by kernel_rfl) (fun _ _ _ h => h) (Or.inl ⟨by rfl, ?_⟩) (by assumption) ?_
      rotate_left
      · intro w hSw; (try dsimp only at hSw); go_split_ands; go_simp; (try with_reducible rfl)
      (try simp only [Act.put, List.setIfInBounds_toArray, List.set_cons_zero, List.set_cons_succ])
      refine wpAnyH_take (i := 23) (v := ?_) (by simp only [List.getElem?_toArray, List.getElem?_cons_succ, List.getElem?_cons_zero]; rfl) (by kernel_rfl) (by kernel_rfl) (by kernel_rfl) (fun _ _ _ h => h) (Or.inl ⟨by rfl, ?_⟩) (by assumption) ?_
      rotate_left
      · intro w hSw; (try dsimp only at hSw); go_split_ands; go_simp; (try with_reducible rfl)
      (try simp only [Act.put, List.setIfInBounds_toArray, List.set_cons_zero, List.set_cons_succ])
      refine wpAnyH_take (i := 24) (v := ?_) (by simp only [List.getElem?_toArray, List.getElem?_cons_succ, List.getElem?_cons_zero]; rfl) (by kernel_rfl) (by kernel_rfl) (by kernel_rfl) (fun _ _ _ h => h) (Or.inl ⟨by rfl, ?_⟩) (by assumption) ?_
      rotate_left
      · intro w hSw; (try dsimp only at hSw); go_split_ands; go_simp; (try with_reducible rfl)
      (try simp only [Act.put, List.setIfInBounds_toArray, List.set_cons_zero, List.set_cons_succ])
      refine wpAnyH_take (i := 25) (v := ?_) (by simp only [List.getElem?_toArray, List.getElem?_cons_succ, List.getElem?_cons_zero]; rfl) (by kernel_rfl) (by kernel_rfl) (by kernel_rfl) (fun _ _ _ h => h) (Or.inl ⟨by rfl, ?_⟩) (by assumption) ?_
      rotate_left
      · intro w hSw; (try dsimp only at hSw); go_split_ands; go_simp; (try with_reducible rfl)
      (try simp only [Act.put, List.setIfInBounds_toArray, List.set_cons_zero, List.set_cons_succ])
      refine wpAnyH_take (i := 26) (v := ?_) (by simp only [List.getElem?_toArray, List.getElem?_cons_succ, List.getElem?_cons_zero]; rfl) (by kernel_rfl) (by kernel_rfl) (by kernel_rfl) (fun _ _ _ h => h) (Or.inl ⟨by rfl, ?_⟩) (by assumption) ?_
      rotate_left
      · intro w hSw; (try dsimp only at hSw); go_split_ands; go_simp; (try with_reducible rfl)
      (try simp only [Act.put, List.setIfInBounds_toArray, List.set_cons_zero, List.set_cons_succ])
      refine wpAnyH_take (i := 27) (v := ?_) (by simp only [List.getElem?_toArray, List.getElem?_cons_succ, List.getElem?_cons_zero]; rfl) (by kernel_rfl) (by kernel_rfl) (by kernel_rfl) (fun _ _ _ h => h) (Or.inl ⟨by rfl, ?_⟩) (by assumption) ?_
      rotate_left
      · intro w hSw; (try dsimp only at hSw); go_split_ands; go_simp; (try with_reducible rfl)
      (try simp only [Act.put, List.setIfInBounds_toArray, List.set_cons_zero, List.set_cons_succ])
      refine wpAnyH_ready (rs := [28]) (by kernel_rfl) (by simp) ?_
      refine AllReadyH.cons rfl (fun K hK => ?_) AllReadyH.nil
      go_simp
      refine (HLV.out w7).mono ?_; rintro e w8 ⟨rfl, hb8⟩; have hb8' : Below w7.heap.size w7 w8 := hb8; have kd2 := str_any w8 A2 (m + 2) c2 _ _ (HC27.out.cells.below hb8' (Nat.le_refl _)) HSM.out; have kd3 := str_any w8 A3 nr c3 _ _ ((Cells.of_own HC37.out).below hb8' (Nat.le_refl _)) HNR.out; have kd4 := str_any w8 A4 nr c4 _ _ ((Cells.of_own HC7.out).below hb8' (Nat.le_refl _)) HNR.out; have kd5 := str_any w8 A7 (m + 2) c7 _ _ (HA7.out.below hb8' (Nat.le_refl _)) HSM.out; rw [HSP.out] at kd2 kd5; rw [HSR.out] at kd3 kd4; have HB8 := Lib.hid (HB7.out.trans (hb8.mono HB7.out.size)); clear hb8 hb8'
      go_wp2_with fail
      refine hK.out _ _ ⟨⟨kd2, kd3, kd4⟩, kd5⟩ (fun hHeld => ?_)
      clear hK K
      (try simp only [Act.put, List.setIfInBounds_toArray, List.set_cons_zero, List.set_cons_succ])
      refine wpAnyH_take (i := 29) (v := ?_) (by simp only [List.getElem?_toArray, List.getElem?_cons_succ, List.getElem?_cons_zero]; rfl) (by kernel_rfl) (by kernel_rfl) (by kernel_rfl) (fun _ _ _ h => h) (Or.inl ⟨by rfl, ?_⟩) (by assumption) ?_
      rotate_left
      · intro w hSw; (try dsimp only at hSw); go_split_ands; go_simp; (try with_reducible rfl)
      (try simp only [Act.put, List.setIfInBounds_toArray, List.set_cons_zero, List.set_cons_succ])
      refine wpAnyH_take (i := 30) (v := ?_) (by simp only [List.getElem?_toArray, List.getElem?_cons_succ, List.getElem?_cons_zero]; rfl) (by kernel_rfl) (by kernel_rfl) (by kernel_rfl) (fun _ _ _ h => h) (Or.inl ⟨by rfl, ?_⟩) (by assumption) ?_
      rotate_left
      · intro w hSw; (try dsimp only at hSw); go_split_ands; go_simp; (try with_reducible rfl)
      (try simp only [Act.put, List.setIfInBounds_toArray, List.set_cons_zero, List.set_cons_succ])
      refine wpAnyH_done (by kernel_rfl) (NoPanic.normal ?_) _
      go_wp2
      go_ret
      exact ⟨rfl, HB8.out⟩
end Go.Proofs.YtaknladkodibaaaGreat
