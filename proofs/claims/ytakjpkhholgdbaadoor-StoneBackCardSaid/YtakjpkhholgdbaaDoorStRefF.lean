/- Layer 17: the reference's Take, where all is there. -/
import Derived.Test.YtakjpkhholgdbaaDoorStRef
namespace Go.Proofs.YtakjpkhholgdbaaDoor
open Go.RowKit CrcP FieldP
attribute [local go_sem ↓] Go.wp_at_zero Go.wp_at_succ

set_option maxRecDepth 100000 in
set_option maxHeartbeats 2000000 in
theorem refSt_full (A : Option Addr) (l c : Nat) (bs : List UInt8) (B : Nat) (p : Nat) (x : UInt8) (w : World) (hl : bs.length = l) (hlc : l ≤ c) (hm : l ≤ 1000)
    (hb : Bytes w B A bs) (hB : B ≤ w.heap.size) (hi : isB tombBytes bs p = true) (hx : bs[p + 4]? = some x) (hp : p + 9 + x.toNat ≤ l) :
    Calls Tryd.prog 14 #[.slice A l c, .int .i64 (p : Int)] w fun e w' => e = .returned (stV bs p) ∧ Below w.heap.size w w' := by
  obtain ⟨b, o, rfl, hbB, hcell⟩ := hb (by rw [byteCells_length, hl]; omega)
  have hcv := run_string_of (P := Tryd.prog) (c := c - p) 27 9 5 Tryd.underlying27 Tryd.underlying5 Tryd.underlying9 (bytes_part hbB hcell p 4) (l := 4) (by rw [List.length_take, List.length_drop, hl]; omega)
  rw [isB_in (by show p + 4 ≤ bs.length; omega)] at hi
  have hne : (bs.drop p).take 4 = tombBytes := of_decide_eq_true hi
  obtain ⟨T, hT⟩ : ∃ T : ByteArray, (⟨((bs.drop p).take 4).toArray⟩ : ByteArray) = T := ⟨_, rfl⟩
  have hTT : (T.toList == [84, 79, 77, 66]) = true := by
    rw [ByteArray.toList_eq, ← hT]
    exact beq_iff_eq.2 hne
  rw [hT] at hcv
  have h1 : ¬ (l : Int) < (p : Int) := by omega
  have h2 : decide ((4 : Int) ≤ ((l - p : Nat) : Int)) = true := by simp; omega
  have hpc : p ≤ c := by omega
  have hcp : ¬ c = p := by omega
  have h4c : 4 ≤ c - p := by omega
  have h4l : 4 ≤ l - p := by omega
  have h3 : decide (((l - p : Nat) : Int) < (5 : Int)) = false := by simp; omega
  have hc4 : w.cell? ⟨b, o + p + 4, none⟩ = some (.int .u8 (x.toNat : Int)) := by
    have := hcell (p + 4) (.int .u8 (x.toNat : Int)) (by unfold byteCells; rw [List.getElem?_map, hx]; rfl)
    rwa [← Nat.add_assoc] at this
  have hx256 := UInt8.toNat_lt x
  have h5l : 4 < l - p := by omega
  have HR := Lib.hid (stR_full hx (by omega : p + 9 + x.toNat ≤ bs.length))
  have HE := Lib.hid (st_end hx (by omega : p + 9 + x.toNat ≤ bs.length))
  have HS2 : Hid ((stS2 bs p).1 = (bs.drop (p + 5)).take x.toNat) := by show _ = _; rw [stS2_there hx (by omega)]
  have HLD : Hid ((bs.drop p).length = l - p) := by show _ = _; rw [List.length_drop, hl]
  obtain ⟨n, hn⟩ : ∃ n, x.toNat = n := ⟨_, rfl⟩
  rw [hn] at hc4 hp hx256 HR HE HS2
  have hx' : n < 256 := hx256
  have h9 : decide (((l - p : Nat) : Int) < 9 + (n : Int)) = false := by simp; omega
  obtain ⟨m, hmn⟩ : ∃ m, 5 + n = m := ⟨_, rfl⟩
  have h5 : (5 : Int) + (n : Int) = (m : Int) := by omega
  have hm5 : m - 5 = n := by omega
  have hml : m ≤ l - p := by omega
  have hmc : m ≤ c - p := by omega
  have hcp5 : ¬ c - p = 5 := by omega
  have h5m : 5 ≤ m := by omega
  have hm300 : m ≤ 300 := by omega
  rw [hmn] at HR
  -- what the callees tell
  have HNU : Hid (∀ W, Bytes W B (some ⟨b, o + p, none⟩) (bs.drop p) → Calls Tryd.prog 30 #[.slice (some ⟨b, o + p, none⟩) (l - p) (c - p), .int .i64 (m : Int), .int .i64 4] W fun e w' => e = .returned (.int .i64 ((val ((bs.drop (p + m)).take 4) : Nat) : Int)) ∧ W = w') := fun W h => by
    have := refNumber_any (some ⟨b, o + p, none⟩) (l - p) (c - p) (bs.drop p) B m W HLD.out (by omega) (by omega) h
    rwa [List.drop_drop] at this
  have HSU : Hid (∀ W, Bytes W B (some ⟨b, o + p, none⟩) ((bs.drop p).take m) → Calls Tryd.prog 31 #[.slice (some ⟨b, o + p, none⟩) m (c - p)] W fun e w' => e = .returned (.int .u32 (sumN ((bs.drop p).take m) : Nat)) ∧ W = w') := fun W h =>
    refSum_any (some ⟨b, o + p, none⟩) m (c - p) _ B W (by rw [List.length_take, HLD.out]; omega) (by omega) h
  have HYR := Lib.hid (bytes_rest hbB hcell p)
  have HYP := Lib.hid (bytes_part hbB hcell p m)
  have HYN := Lib.hid (bytes_part hbB hcell (p + 5) n)
  have HLN : Hid (((bs.drop (p + 5)).take n).length = n) := by show _ = _; rw [List.length_take, List.length_drop, hl]; omega
  have hslt := sumN_lt ((bs.drop p).take m)
  have hvlt : val ((bs.drop (p + m)).take 4) < 4294967296 := val_lt4 (by rw [List.length_take]; omega)
  have HVG : Hid (stR bs p = 0 → stV bs p = .tuple #[.string ⟨((bs.drop (p + 5)).take n).toArray⟩, .int .i64 ((p : Int) + (m : Int) + 4), .int .i64 0]) := fun h => by
    rw [stV_good h, HS2.out, HE.out]
    congr 2
    congr 1
    congr 1
    congr 1
    omega
  have HVB : Hid (stR bs p ≠ 0 → stV bs p = .tuple #[.string ⟨#[]⟩, .int .i64 0, .int .i64 (stR bs p : Nat)]) := stV_bad
  obtain ⟨v, hv⟩ : ∃ v, val ((bs.drop (p + m)).take 4) = v := ⟨_, rfl⟩
  obtain ⟨y, hy⟩ : ∃ y, sumN ((bs.drop p).take m) = y := ⟨_, rfl⟩
  rw [hv] at HNU hvlt HR
  rw [hy] at HSU hslt HR
  obtain ⟨N, hN⟩ : ∃ N : ByteArray, (⟨((bs.drop (p + 5)).take n).toArray⟩ : ByteArray) = N := ⟨_, rfl⟩
  have hcn : ∀ q, (convert 27 9 (.slice (some ⟨b, o + p + 5, none⟩) n (c - p - 5))).run Tryd.prog (w.drewN q) = .ok (.string N) (w.drewN q) := fun q => by
    rw [← hN]
    exact run_string_of 27 9 5 Tryd.underlying27 Tryd.underlying5 Tryd.underlying9 (by have := HYN.out; rw [← Nat.add_assoc] at this; exact this.drewN q) HLN.out
  have HCV5 : Hid (∀ w5, (∀ q, Below w.heap.size (w.drewN q) w5 → (convert 27 9 (.slice (some ⟨b, o + p + 5, none⟩) n (c - p - 5))).run Tryd.prog w5 = .ok (.string N) w5)) := fun w5 q h5 => by
    rw [← hN]
    exact run_string_of 27 9 5 Tryd.underlying27 Tryd.underlying5 Tryd.underlying9 (by have := HYN.out; rw [← Nat.add_assoc] at this; exact (this.drewN q).below h5 hB) HLN.out
  have HRT : Hid (∀ W, Calls Tryd.prog 11 #[.string N] W fun e w' => e = .returned (.bool (rightB ((bs.drop (p + 5)).take n))) ∧ Below W.heap.size W w') := fun W => by
    have := refRight_any N W (by rw [← hN]; show ((bs.drop (p + 5)).take n).toArray.size ≤ maxLen; rw [List.size_toArray, HLN.out]; unfold maxLen; omega)
    rw [← hN] at this ⊢
    exact this
  rw [hN] at HVG
  have HNE := Lib.hid hN
  have HCN := Lib.hid hcn
  obtain ⟨rt, hrt⟩ : ∃ rt, rightB ((bs.drop (p + 5)).take n) = rt := ⟨_, rfl⟩
  rw [hrt] at HRT HR
  clear hi hne hT hb hl hcell hx hn hv hy hN hx256 hrt hcn hmn
  go_enter Tryd.func14, Tryd.ntmps14
  go_wp2_with fail
  by_cases hq : v = y
  · subst hq
    rw [if_pos rfl] at HR
    go_quiet (first | (go_at_call 30; exact quiet_left (HNU.out _ HYR.out)) | (go_at_call 31; exact quiet_left (HSU.out _ HYP.out)))
    have k1 := HCN.out nq
    cases rt with
    | false =>
      have HR6 : Hid (stR bs p = 6) := HR.out
      go_wp2_with (go_at_call 11; refine (HRT.out _).mono ?_; rintro e w5 ⟨rfl, hb⟩; have HB5 := Lib.hid hb; clear hb)
      go_ret3
      exact ⟨by rw [HVB.out (by rw [HR6.out]; decide), HR6.out]; rfl, (below_drewN (Below.refl w.heap.size w) nq).trans HB5.out⟩
    | true =>
      have HR6 : Hid (stR bs p = 0) := HR.out
      go_wp2_with (go_at_call 11; refine (HRT.out _).mono ?_; rintro e w5 ⟨rfl, hb⟩; have HB5 := Lib.hid hb; have k2 := HCV5.out w5 nq hb; clear hb)
      go_ret3
      exact ⟨by rw [HVG.out HR6.out]; rfl, (below_drewN (Below.refl w.heap.size w) nq).trans HB5.out⟩
  · rw [if_neg hq] at HR
    have HR6 : Hid (stR bs p = 4) := HR.out
    go_quiet (first | (go_at_call 30; exact quiet_left (HNU.out _ HYR.out)) | (go_at_call 31; exact quiet_left (HSU.out _ HYP.out)))
    go_wp2
    go_ret3
    exact ⟨by rw [HVB.out (by rw [HR6.out]; decide), HR6.out]; rfl, below_drewN (Below.refl _ _) nq⟩
end Go.Proofs.YtakjpkhholgdbaaDoor
