/- Layer 16: the reference's Take, where all is there. -/
import Derived.Test.YtaknladkodibaaaGreatDoorMgQ34936
import Derived.Outline
import Derived.Deep.RegionHeld3
import Derived.Test.YtaknladkodibaaaGreatDoorMgQ34933
namespace Go.Proofs.YtaknladkodibaaaGreatDoor
open Go.RowKit CrcP FieldP
attribute [local go_sem ↓] Go.wp_at_zero Go.wp_at_succ

set_option maxRecDepth 100000 in
set_option maxHeartbeats 4000000 in
theorem refLc_full (A : Option Addr) (l c : Nat) (bs : List UInt8) (B : Nat) (p : Nat) (x : UInt8) (w : World) (hl : bs.length = l) (hlc : l ≤ c) (hm : l ≤ 1000000)
    (hb : Bytes w B A bs) (hB : B ≤ w.heap.size) (hi : isB headBytes bs p = true) (hx : bs[p + 5]? = some x) (hp : p + 22 + x.toNat ≤ l) :
    Calls Tryz.prog 50 #[.slice A l c, .int .i64 (p : Int)] w fun e w' => e = .returned (lcV bs p) ∧ Below w.heap.size w w' := by
  obtain ⟨b, o, rfl, hbB, hcell⟩ := hb (by rw [byteCells_length, hl]; omega)
  have hcv := run_string_of (P := Tryz.prog) (w := w.alloc (.cells #[.int .i64 0, .string ⟨#[]⟩, .int .i64 0, .int .i64 0, .int .u32 0] 74)) (c := c - p) 25 9 5 Tryz.underlying25 Tryz.underlying5 Tryz.underlying9 ((bytes_partL hbB hcell p 4).alloc hB _) (l := 4) (by rw [List.length_take, List.length_drop, hl]; omega)
  rw [isB_in (by show p + 4 ≤ bs.length; omega)] at hi
  have hne : (bs.drop p).take 4 = headBytes := of_decide_eq_true hi
  obtain ⟨T, hT⟩ : ∃ T : ByteArray, (⟨((bs.drop p).take 4).toArray⟩ : ByteArray) = T := ⟨_, rfl⟩
  have hTT : (T.toList == [76, 77, 66, 82]) = true := by
    rw [ByteArray.toList_eq, ← hT]
    exact beq_iff_eq.2 hne
  rw [hT] at hcv
  have h1 : ¬ (l : Int) < (p : Int) := by omega
  have h2 : decide ((4 : Int) ≤ ((l - p : Nat) : Int)) = true := by simp; omega
  have hpc : p ≤ c := by omega
  have hcp : ¬ c = p := by omega
  have h4c : 4 ≤ c - p := by omega
  have h4l : 4 ≤ l - p := by omega
  have h3 : decide (((l - p : Nat) : Int) < (18 : Int)) = false := by simp; omega
  obtain ⟨w0, hw0⟩ : ∃ w0, w.alloc (.cells #[.int .i64 0, .string ⟨#[]⟩, .int .i64 0, .int .i64 0, .int .u32 0] 74) = w0 := ⟨_, rfl⟩
  have HX0 : Hid (Box w0 w.heap.size #[.int .i64 0, .string ⟨#[]⟩, .int .i64 0, .int .i64 0, .int .u32 0] 74) := by rw [← hw0]; exact heap_alloc_new w _
  have HB0 : Hid (Below w.heap.size w w0) := by rw [← hw0]; exact (Below.refl w.heap.size w).alloc (Nat.le_refl _) _
  rw [hw0] at hcv
  have hcell0 : ∀ j u, (byteCells bs)[j]? = some u → w0.cell? ⟨b, o + j, none⟩ = some u := fun j u hu => (HB0.out.cell (p := ⟨b, o + j, none⟩) (by show b < _; omega)).trans (hcell j u hu)
  have hc5 : w0.cell? ⟨b, o + p + 5, none⟩ = some (.int .u8 (x.toNat : Int)) := by
    have := hcell0 (p + 5) (.int .u8 (x.toNat : Int)) (by unfold byteCells; rw [List.getElem?_map, hx]; rfl)
    rwa [← Nat.add_assoc] at this
  obtain ⟨y, hy⟩ : ∃ y : UInt8, bs[p + 4]? = some y := ⟨_, List.getElem?_eq_getElem (by omega)⟩
  have hc4 : w0.cell? ⟨b, o + p + 4, none⟩ = some (.int .u8 (y.toNat : Int)) := by
    have := hcell0 (p + 4) (.int .u8 (y.toNat : Int)) (by unfold byteCells; rw [List.getElem?_map, hy]; rfl)
    rwa [← Nat.add_assoc] at this
  have hx256 := UInt8.toNat_lt x
  have hy256 := UInt8.toNat_lt y
  have h5l : 5 < l - p := by omega
  have h4l' : 4 < l - p := by omega
  obtain ⟨z1, n0, z2, n2, n3, n4⟩ := lc_there hx (by omega : p + 18 ≤ bs.length)
  obtain ⟨eX, eE, eR⟩ := lcR_full hx (by omega : p + 22 + x.toNat ≤ bs.length)
  have HE := Lib.hid eE
  have HX1 : Hid ((lcX bs p).1 = (bs.drop (p + 18)).take x.toNat) := by show _ = _; rw [eX]
  have n0' : lcN bs (openS bs p) 0 = y.toNat := by rw [n0, take_one hy]; simp [val]
  have HN0 := Lib.hid n0'
  have HN2 := Lib.hid n2
  have HN3 := Lib.hid n3
  have HN4 := Lib.hid n4
  have HR := Lib.hid eR
  have HLD : Hid ((bs.drop p).length = l - p) := by show _ = _; rw [List.length_drop, hl]
  clear z1 z2 n0 n0' n2 n3 n4 eX eE eR
  obtain ⟨n, hn⟩ : ∃ n, x.toNat = n := ⟨_, rfl⟩
  rw [hn] at hc5 hp hx256 HR HE HX1
  obtain ⟨y', hy'⟩ : ∃ n, y.toNat = n := ⟨_, rfl⟩
  rw [hy'] at hc4 hy256 HN0
  have hx' : n < 256 := hx256
  have hy256' : y' < 256 := hy256
  have h9 : decide (((l - p : Nat) : Int) < 22 + (n : Int)) = false := by simp; omega
  obtain ⟨m, hmn⟩ : ∃ m, 18 + n = m := ⟨_, rfl⟩
  have h5 : (18 : Int) + (n : Int) = (m : Int) := by omega
  have hm5 : m - 18 = n := by omega
  have hml : m ≤ l - p := by omega
  have hmc : m ≤ c - p := by omega
  have hcp18 : ¬ c - p = 18 := by omega
  have h18m : 18 ≤ m := by omega
  have hm300 : m ≤ 300 := by omega
  rw [hmn] at HR
  -- what the callees tell
  have HNU : Hid (∀ (k : Nat) W, k + 4 ≤ l - p → Bytes W B (some ⟨b, o + p, none⟩) (bs.drop p) → Calls Tryz.prog 94 #[.slice (some ⟨b, o + p, none⟩) (l - p) (c - p), .int .i64 (k : Int), .int .i64 4] W fun e w' => e = .returned (.int .i64 ((val ((bs.drop (p + k)).take 4) : Nat) : Int)) ∧ W = w') := fun k W hk h => by
    have := refNumberK_any (some ⟨b, o + p, none⟩) (l - p) (c - p) (bs.drop p) B k W HLD.out (by omega) (by omega) h
    rwa [List.drop_drop] at this
  have HNM := Lib.hid (fun W h => HNU.out m W (by omega) h)
  have HN6 := Lib.hid (fun W h => HNU.out 6 W (by omega) h)
  have HN10 := Lib.hid (fun W h => HNU.out 10 W (by omega) h)
  have HN14 := Lib.hid (fun W h => HNU.out 14 W (by omega) h)
  rw [show ((6 : Nat) : Int) = 6 from rfl] at HN6
  rw [show ((10 : Nat) : Int) = 10 from rfl] at HN10
  rw [show ((14 : Nat) : Int) = 14 from rfl] at HN14
  have HSU : Hid (∀ W, Bytes W B (some ⟨b, o + p, none⟩) ((bs.drop p).take m) → Calls Tryz.prog 36 #[.slice (some ⟨b, o + p, none⟩) m (c - p)] W fun e w' => e = .returned (.int .u32 (sumN ((bs.drop p).take m) : Nat)) ∧ W = w') := fun W h =>
    refSum_any (some ⟨b, o + p, none⟩) m (c - p) _ B W (by rw [List.length_take, HLD.out]; omega) (by omega) h
  have HYR := Lib.hid (bytes_restL hbB hcell0 p)
  have HYP := Lib.hid (bytes_partL hbB hcell0 p m)
  have HYN := Lib.hid (bytes_partL hbB hcell0 (p + 18) n)
  have HLN : Hid (((bs.drop (p + 18)).take n).length = n) := by show _ = _; rw [List.length_take, List.length_drop, hl]; omega
  have hslt := sumN_lt ((bs.drop p).take m)
  have hvlt : val ((bs.drop (p + m)).take 4) < 4294967296 := val_lt4 (by rw [List.length_take]; omega)
  have hv6 : val ((bs.drop (p + 6)).take 4) < 4294967296 := val_lt4 (by rw [List.length_take]; omega)
  have hv10 : val ((bs.drop (p + 10)).take 4) < 4294967296 := val_lt4 (by rw [List.length_take]; omega)
  have hv14 : val ((bs.drop (p + 14)).take 4) < 4294967296 := val_lt4 (by rw [List.length_take]; omega)
  have HVG := Lib.hid (lcV_good (bs := bs) (p := p))
  have HVB := Lib.hid (lcV_bad (bs := bs) (p := p))
  have HHD : Hid (lcHd bs p = hdB (lcN bs (openS bs p) 0 : Nat) (lcX bs p).1 (lcN bs (openS bs p) 2 : Nat) (lcN bs (openS bs p) 3 : Nat) (lcN bs (openS bs p) 4 : Nat)) := rfl
  rw [HE.out, HX1.out, HN0.out, HN2.out, HN3.out, HN4.out] at HVG
  rw [HX1.out, HN0.out, HN2.out, HN3.out, HN4.out] at HHD
  obtain ⟨hd, hhd⟩ : ∃ hd, lcHd bs p = hd := ⟨_, rfl⟩
  rw [hhd] at HHD HR
  have hrp : ((p + 22 + n : Nat) : Int) = (p : Int) + (m : Int) + 4 := by omega
  rw [hrp] at HVG
  have HRB : Hid (lcR bs p ≠ 0 → lcV bs p = .tuple #[.agg #[.int .i64 0, .string ⟨#[]⟩, .int .i64 0, .int .i64 0, .int .u32 0], .int .i64 0, .int .i64 (lcR bs p : Nat)]) := HVB.out
  obtain ⟨N, hN⟩ : ∃ N : ByteArray, (⟨((bs.drop (p + 18)).take n).toArray⟩ : ByteArray) = N := ⟨_, rfl⟩
  rw [hN] at HVG
  obtain ⟨v, hv⟩ : ∃ v, val ((bs.drop (p + m)).take 4) = v := ⟨_, rfl⟩
  obtain ⟨su, hsu⟩ : ∃ y, sumN ((bs.drop p).take m) = y := ⟨_, rfl⟩
  obtain ⟨v6, e6⟩ : ∃ v, val ((bs.drop (p + 6)).take 4) = v := ⟨_, rfl⟩
  obtain ⟨v10, e10⟩ : ∃ v, val ((bs.drop (p + 10)).take 4) = v := ⟨_, rfl⟩
  obtain ⟨v14, e14⟩ : ∃ v, val ((bs.drop (p + 14)).take 4) = v := ⟨_, rfl⟩
  rw [hv] at HNM hvlt HR
  rw [hsu] at HSU hslt HR
  rw [e6] at HN6 hv6 HVG HHD
  rw [e10] at HN10 hv10 HVG HHD
  rw [e14] at HN14 hv14 HVG HHD
  have hcn : ∀ W, Bytes W B (some ⟨b, o + (p + 18), none⟩) ((bs.drop (p + 18)).take n) → (convert 25 9 (.slice (some ⟨b, o + p + 18, none⟩) n (c - p - 18))).run Tryz.prog W = .ok (.string N) W := fun W h => by
    rw [← hN]
    exact run_string_of 25 9 5 Tryz.underlying25 Tryz.underlying5 Tryz.underlying9 (by rw [← Nat.add_assoc] at h; exact h) HLN.out
  have HCN := Lib.hid hcn
  have HRT : Hid (∀ W, Calls Tryz.prog 95 #[.agg #[.int .i64 (y' : Int), .string N, .int .i64 (v6 : Int), .int .i64 (v10 : Int), .int .u32 (v14 : Int)]] W fun e w' => e = .returned (.bool hd) ∧ Below W.heap.size W w') := fun W => by
    have := refHd_any (y' : Int) N (v6 : Int) (v10 : Int) (v14 : Int) W (by rw [← hN]; show ((bs.drop (p + 18)).take n).toArray.size ≤ maxLen; rw [List.size_toArray, HLN.out]; unfold maxLen; omega)
    rw [HHD.out]
    rw [← hN] at this ⊢
    exact this
  have HHW := Lib.hid hw0
  clear hi hne hT hb hl hcell hx hn hv hy hsu e6 e10 e14 hN hx256 hy256 hmn hcn hhd hy' hcell0 hrp HNU
  go_enter Tryz.func50, Tryz.ntmps50
  go_wp2_with fail
  by_cases hq : v = su
  · subst hq
    rw [if_pos rfl] at HR
    go_quiet (first | (go_at_call 94; exact quiet_left (HNM.out _ HYR.out)) | (go_at_call 36; exact quiet_left (HSU.out _ HYP.out)))
    go_wp2_with fail
    have HYR2 : Hid (Bytes (w0.drewN nq) B (some ⟨b, o + p, none⟩) (bs.drop p)) := HYR.out.drewN nq
    have HYN2 : Hid (Bytes (w0.drewN nq) B (some ⟨b, o + (p + 18), none⟩) ((bs.drop (p + 18)).take n)) := HYN.out.drewN nq
    have HX2 : Hid (Box (w0.drewN nq) w.heap.size _ _) := HX0.out
    have HB2 := Lib.hid (below_drewN HB0.out nq)
    have hc4' : (w0.drewN nq).cell? ⟨b, o + p + 4, none⟩ = some (.int .u8 (y' : Int)) := hc4
    have hbw : b < (w0.drewN nq).heap.size := by have := HB2.out.size; omega
    clear hcv hc4 hc5 hw0 HX0 HB0 HYR HYP HYN HHW HNM HSU h3 h2 hTT
    generalize w0.drewN nq = W at *
    have HK : Hid (∀ W', Below B W W' → W'.cell? ⟨b, o + p + 4, none⟩ = some (.int .u8 (y' : Int)) ∧ (convert 25 9 (.slice (some ⟨b, o + p + 18, none⟩) n (c - p - 18))).run Tryz.prog W' = .ok (.string N) W' ∧ Bytes W' B (some ⟨b, o + p, none⟩) (bs.drop p)) := fun W' h =>
      ⟨(h.cell (p := ⟨b, o + p + 4, none⟩) hbB).trans hc4', HCN.out W' (HYN2.out.below h (Nat.le_refl _)), HYR2.out.below h (Nat.le_refl _)⟩
    have HBW : Hid (B ≤ W.heap.size) := by have := HB2.out.size; show _ ≤ _; omega
    have HO3 : Hid (Box (W.alloc (.cells #[.int .i64 (y' : Int), .string N, .int .i64 (v6 : Int), .int .i64 (v10 : Int), .int .u32 (v14 : Int)] 74)).drew W.heap.size #[.int .i64 (y' : Int), .string N, .int .i64 (v6 : Int), .int .i64 (v10 : Int), .int .u32 (v14 : Int)] 74) := heap_alloc_new W _
    have HX3 : Hid (Box (W.alloc (.cells #[.int .i64 (y' : Int), .string N, .int .i64 (v6 : Int), .int .i64 (v10 : Int), .int .u32 (v14 : Int)] 74)).drew w.heap.size #[.int .i64 0, .string ⟨#[]⟩, .int .i64 0, .int .i64 0, .int .u32 0] 74) := Box.alloc HX2.out _
    have HB3 : Hid (Below w.heap.size w (W.alloc (.cells #[.int .i64 (y' : Int), .string N, .int .i64 (v6 : Int), .int .i64 (v10 : Int), .int .u32 (v14 : Int)] 74)).drew) := below_drewN (HB2.out.alloc HB2.out.size _) 1
    have q1 : (4 : Int) < ((l - p : Nat) : Int) := by omega
    have q2 : (18 : Int) ≤ (m : Int) := by omega
    have q3 : (m : Int) ≤ ((c - p : Nat) : Int) := by omega
    go_region_held3 (fun w' => w'.cell? ⟨b, o + p + 4, none⟩ = some (.int .u8 (y' : Int)) ∧ (convert 25 9 (.slice (some ⟨b, o + p + 18, none⟩) n (c - p - 18))).run Tryz.prog w' = .ok (.string N) w' ∧ Bytes w' B (some ⟨b, o + p, none⟩) (bs.drop p))
      (first
        | exact HK.out _ (below_drewN (Below.refl B W) 1)
        | exact HK.out _ (below_drewN ((Below.refl B W).alloc HBW.out _) 1))
      (first
        | (go_at_call 94; ((with_reducible refine (HN6.out _ ?hb).mono ?_); (case hb => first | exact (HK.out _ (below_drewN (Below.refl B W) 1)).2.2 | exact (HK.out _ (below_drewN ((Below.refl B W).alloc HBW.out _) 1)).2.2); rintro e w' ⟨rfl, rfl⟩))
        | (go_at_call 94; ((with_reducible refine (HN10.out _ ?hb).mono ?_); (case hb => first | exact (HK.out _ (below_drewN (Below.refl B W) 1)).2.2 | exact (HK.out _ (below_drewN ((Below.refl B W).alloc HBW.out _) 1)).2.2); rintro e w' ⟨rfl, rfl⟩))
        | (go_at_call 94; ((with_reducible refine (HN14.out _ ?hb).mono ?_); (case hb => first | exact (HK.out _ (below_drewN (Below.refl B W) 1)).2.2 | exact (HK.out _ (below_drewN ((Below.refl B W).alloc HBW.out _) 1)).2.2); rintro e w' ⟨rfl, rfl⟩)))
    all_goals
      go_wp2_with fail
      refine (HRT.out _).mono ?_
      rintro e w5 ⟨rfl, hb⟩
      have HX5 : Hid (Box w5 w.heap.size #[.int .i64 0, .string ⟨#[]⟩, .int .i64 0, .int .i64 0, .int .u32 0] 74) := HX3.out.below hb HX3.out.lt
      have HO5 : Hid (Box w5 W.heap.size #[.int .i64 (y' : Int), .string N, .int .i64 (v6 : Int), .int .i64 (v10 : Int), .int .u32 (v14 : Int)] 74) := HO3.out.below hb HO3.out.lt
      have HB5 : Hid (Below w.heap.size w w5) := HB3.out.trans (hb.mono HB3.out.size)
      clear hb
      have hx0 : w5.cell? ⟨w.heap.size, 0, none⟩ = _ := HX5.out.cell 0
      have hf0 := frozen_of_row w5 w.heap.size 0 _ _ HX5.out
      have ho0 : w5.cell? ⟨W.heap.size, 0, none⟩ = _ := HO5.out.cell 0
      have hx1 : w5.cell? ⟨w.heap.size, 1, none⟩ = _ := HX5.out.cell 1
      have hf1 := frozen_of_row w5 w.heap.size 1 _ _ HX5.out
      have ho1 : w5.cell? ⟨W.heap.size, 1, none⟩ = _ := HO5.out.cell 1
      have hx2 : w5.cell? ⟨w.heap.size, 2, none⟩ = _ := HX5.out.cell 2
      have hf2 := frozen_of_row w5 w.heap.size 2 _ _ HX5.out
      have ho2 : w5.cell? ⟨W.heap.size, 2, none⟩ = _ := HO5.out.cell 2
      have hx3 : w5.cell? ⟨w.heap.size, 3, none⟩ = _ := HX5.out.cell 3
      have hf3 := frozen_of_row w5 w.heap.size 3 _ _ HX5.out
      have ho3 : w5.cell? ⟨W.heap.size, 3, none⟩ = _ := HO5.out.cell 3
      have hx4 : w5.cell? ⟨w.heap.size, 4, none⟩ = _ := HX5.out.cell 4
      have hf4 := frozen_of_row w5 w.heap.size 4 _ _ HX5.out
      have ho4 : w5.cell? ⟨W.heap.size, 4, none⟩ = _ := HO5.out.cell 4
      cases hd with
      | false =>
        have HR6 : Hid (lcR bs p = 3) := HR.out
        go_wp2
        refine bodyPost_ret (v := .tuple #[.agg #[.int .i64 0, .string ⟨#[]⟩, .int .i64 0, .int .i64 0, .int .u32 0], .int .i64 0, .int .i64 3]) (by simp [results, Tryz.results50, hx0, hx1, hx2, hx3, hx4, go_sem]) rfl ⟨by rw [HVB.out (by rw [HR6.out]; decide), HR6.out]; rfl, ?_⟩
        exact (((((HB5.out.setCell (p := ⟨w.heap.size, 0, none⟩) (Nat.le_refl _) _).setCell (p := ⟨w.heap.size, 1, none⟩) (Nat.le_refl _) _).setCell (p := ⟨w.heap.size, 2, none⟩) (Nat.le_refl _) _).setCell (p := ⟨w.heap.size, 3, none⟩) (Nat.le_refl _) _).setCell (p := ⟨w.heap.size, 4, none⟩) (Nat.le_refl _) _)
      | true =>
        have HR6 : Hid (lcR bs p = 0) := HR.out
        go_wp2
        refine bodyPost_ret (v := .tuple #[.agg #[.int .i64 (y' : Int), .string N, .int .i64 (v6 : Int), .int .i64 (v10 : Int), .int .u32 (v14 : Int)], .int .i64 ((p : Int) + (m : Int) + 4), .int .i64 0]) (by simp [results, Tryz.results50, hx0, hx1, hx2, hx3, hx4, go_sem]) rfl ⟨by rw [HVG.out HR6.out], ?_⟩
        exact (((((HB5.out.setCell (p := ⟨w.heap.size, 0, none⟩) (Nat.le_refl _) _).setCell (p := ⟨w.heap.size, 1, none⟩) (Nat.le_refl _) _).setCell (p := ⟨w.heap.size, 2, none⟩) (Nat.le_refl _) _).setCell (p := ⟨w.heap.size, 3, none⟩) (Nat.le_refl _) _).setCell (p := ⟨w.heap.size, 4, none⟩) (Nat.le_refl _) _)
  · rw [if_neg hq] at HR
    have HR6 : Hid (lcR bs p = 4) := HR.out
    go_quiet (first | (go_at_call 94; exact quiet_left (HNM.out _ HYR.out)) | (go_at_call 36; exact quiet_left (HSU.out _ HYP.out)))
    have HX2 : Hid (Box (w0.drewN nq) w.heap.size _ _) := HX0.out
    have hx0 : (w0.drewN nq).cell? ⟨w.heap.size, 0, none⟩ = _ := HX2.out.cell 0
    have hf0 := frozen_of_row (w0.drewN nq) w.heap.size 0 _ _ HX2.out
    have hx1 : (w0.drewN nq).cell? ⟨w.heap.size, 1, none⟩ = _ := HX2.out.cell 1
    have hf1 := frozen_of_row (w0.drewN nq) w.heap.size 1 _ _ HX2.out
    have hx2 : (w0.drewN nq).cell? ⟨w.heap.size, 2, none⟩ = _ := HX2.out.cell 2
    have hf2 := frozen_of_row (w0.drewN nq) w.heap.size 2 _ _ HX2.out
    have hx3 : (w0.drewN nq).cell? ⟨w.heap.size, 3, none⟩ = _ := HX2.out.cell 3
    have hf3 := frozen_of_row (w0.drewN nq) w.heap.size 3 _ _ HX2.out
    have hx4 : (w0.drewN nq).cell? ⟨w.heap.size, 4, none⟩ = _ := HX2.out.cell 4
    have hf4 := frozen_of_row (w0.drewN nq) w.heap.size 4 _ _ HX2.out
    go_wp2
    refine bodyPost_ret (v := .tuple #[.agg #[.int .i64 0, .string ⟨#[]⟩, .int .i64 0, .int .i64 0, .int .u32 0], .int .i64 0, .int .i64 4]) (by simp [results, Tryz.results50, hx0, hx1, hx2, hx3, hx4, go_sem]) rfl ⟨by rw [HVB.out (by rw [HR6.out]; decide), HR6.out]; rfl, ?_⟩
    exact (((((((below_drewN HB0.out nq)).setCell (p := ⟨w.heap.size, 0, none⟩) (Nat.le_refl _) _).setCell (p := ⟨w.heap.size, 1, none⟩) (Nat.le_refl _) _).setCell (p := ⟨w.heap.size, 2, none⟩) (Nat.le_refl _) _).setCell (p := ⟨w.heap.size, 3, none⟩) (Nat.le_refl _) _).setCell (p := ⟨w.heap.size, 4, none⟩) (Nat.le_refl _) _)
end Go.Proofs.YtaknladkodibaaaGreatDoor
/- Layer 16: the reference's Take over any place; Is. -/
namespace Go.Proofs.YtaknladkodibaaaGreatDoor
open Go.RowKit CrcP FieldP

theorem refLc_any (A : Option Addr) (l c : Nat) (bs : List UInt8) (B : Nat) (p : Int) (w : World) (hl : bs.length = l) (hm : l ≤ 1000000) (hlc : l ≤ c)
    (hb : Bytes w B A bs) (hB : B ≤ w.heap.size) :
    Calls Tryz.prog 50 #[.slice A l c, .int .i64 p] w fun e w' => e = .returned (lcAns bs p) ∧ Below w.heap.size w w' := by
  by_cases h1 : p < 0 ∨ (bs.length : Int) < p
  · have e1 : lcAns bs p = .tuple #[.agg #[.int .i64 0, .string ⟨#[]⟩, .int .i64 0, .int .i64 0, .int .u32 0], .int .i64 0, .int .i64 1] := by unfold lcAns; rw [if_pos h1]
    rw [e1]
    exact refLc_arg A l c p w (by rw [← hl]; exact h1)
  obtain ⟨q, rfl⟩ := Int.eq_ofNat_of_zero_le (show 0 ≤ p by omega)
  by_cases h2 : (q : Int) + 4 ≤ bs.length ∧ isB headBytes bs q = false
  · have e1 : lcAns bs q = .tuple #[.agg #[.int .i64 0, .string ⟨#[]⟩, .int .i64 0, .int .i64 0, .int .u32 0], .int .i64 0, .int .i64 3] := by unfold lcAns; rw [if_neg h1, if_pos h2]
    rw [e1]
    exact refLc_form A l c bs B q w hl hlc hm hb hB (by omega) h2.2
  have e1 : lcAns bs q = lcV bs q := by unfold lcAns; rw [if_neg h1, if_neg h2, Int.toNat_natCast]
  rw [e1]
  by_cases h4 : l < q + 4
  · have e2 := lcR_end (bs := bs) (p := q) (.inl (by omega))
    rw [lcV_bad (by rw [e2]; decide), e2]
    exact refLc_less A l c q w hlc (by omega) h4
  have hi : isB headBytes bs q = true := by cases hi : isB headBytes bs q with | true => rfl | false => exact absurd ⟨by omega, hi⟩ h2
  by_cases h5 : l < q + 18
  · have e2 := lcR_end (bs := bs) (p := q) (.inl (by omega))
    rw [lcV_bad (by rw [e2]; decide), e2]
    exact refLc_mid A l c bs B q w hl hlc hm hb hB (by omega) hi (.inl h5)
  have hx : bs[q + 5]? = some (bs[q + 5]'(by omega)) := List.getElem?_eq_getElem _
  generalize bs[q + 5]'(by omega) = x at hx
  by_cases h9 : l < q + 22 + x.toNat
  · have e2 := lcR_end (.inr ⟨x, hx, by omega⟩)
    rw [lcV_bad (by rw [e2]; decide), e2]
    exact refLc_mid A l c bs B q w hl hlc hm hb hB (by omega) hi (.inr ⟨x, by omega, hx, h9⟩)
  · exact refLc_full A l c bs B q x w hl hlc hm hb hB hi hx (by omega)

end Go.Proofs.YtaknladkodibaaaGreatDoor
