/- Layer 19: a directory is taken. -/
import Derived.Test.YthnoobhjkhafcaaDoorEnRd
import Derived.Test.YthnoobhjkhafcaaDoorGrow
namespace Go.Proofs.YthnoobhjkhafcaaDoor
open Go.RowKit CrcP FieldP

theorem memElem : Elem Tryd.prog 22 34 (.agg #[.string ⟨#[]⟩, .int .i64 0, .int .i64 0, .int .i64 0, .int .i64 0, .int .u32 0, .int .i64 0]) 7 64 := Elem.of Tryd.underlying22 (by kernel_rfl) rfl (by omega)
/-- The state behind k members, and these. -/
def rdK (bs : List UInt8) (s : RSt) : Nat → RSt
  | 0 => s
  | k + 1 => (rdX bs (rdK bs s k)).2
def rdL (bs : List UInt8) (s : RSt) : Nat → List LM
  | 0 => []
  | k + 1 => rdL bs s k ++ [rdM bs (rdK bs s k)]
theorem rdL_length (bs : List UInt8) (s : RSt) : ∀ k, (rdL bs s k).length = k
  | 0 => rfl
  | k + 1 => by rw [rdL, List.length_append, rdL_length bs s k]; rfl
theorem rdK_le {bs : List UInt8} {s : RSt} (h : s.p ≤ bs.length) : ∀ k, (rdK bs s k).p ≤ bs.length
  | 0 => h
  | k + 1 => row_le (rdS_le (rdK_le h k) 6)
theorem rdM_ok {bs : List UInt8} {s : RSt} (h : bs.length ≤ 1000000000) : (rdM bs s).Ok := by
  have h0 := rdN_lt bs s 2
  have h5 := rdN_lt bs s 5
  have hl : (rdX bs s).1.length ≤ bs.length := row_len_le _ _ _
  refine ⟨?_, ?_, ?_, ?_, ?_⟩
  · show (rdX bs s).1.toArray.size ≤ maxLen
    rw [List.size_toArray]; unfold maxLen; omega
  · show _ ≤ ((rdN bs s 2 : Nat) : Int) + (22 + ((rdX bs s).1.length : Int)); omega
  · show ((rdN bs s 2 : Nat) : Int) + (22 + ((rdX bs s).1.length : Int)) ≤ _; omega
  · show (0 : Int) ≤ ((rdN bs s 5 : Nat) : Int); omega
  · show ((rdN bs s 5 : Nat) : Int) < _; omega
theorem rdL_ok {bs : List UInt8} {s : RSt} (h : bs.length ≤ 1000000000) : ∀ k, ∀ m ∈ rdL bs s k, m.Ok
  | 0, m, hm => by simp [rdL] at hm
  | k + 1, m, hm => by
    rw [rdL, List.mem_append] at hm
    rcases hm with hm | hm
    · exact rdL_ok h k m hm
    · obtain rfl : m = _ := by simpa using hm
      exact rdM_ok h
theorem mems_snoc (ms : List LM) (m : LM) : ((ms ++ [m]).map LM.cells).flatten = (ms.map LM.cells).flatten ++ m.arr.toList := by
  rw [List.map_append, List.flatten_append]
  simp [LM.arr, LM.cells]
theorem cells_of_own7 {w : World} {base : Nat} {e : TypeId} {size : Nat} {A : Option Addr} {n c : Nat} {xs : List Value} (h : w.ownsRow base e size (.slice A n c) n xs) : Cells w w.heap.size A xs := fun hp => by
  obtain ⟨hlen, hor⟩ := h
  rcases hor with ⟨h1, h2⟩ | ⟨g, cap, cur, hv, _, hg, _, _, hcells⟩
  · subst h2; rw [Nat.zero_mul] at hlen; omega
  · injection hv with ha _ _
    refine ⟨g, 0, ha, (Array.getElem?_eq_some_iff.1 hg).1, fun j u hj => ?_⟩
    rw [Nat.zero_add, cell_of_row w g j _ _ _ hg]
    obtain ⟨_, ht⟩ := hcells
    rw [← ht, List.getElem?_take] at hj
    split at hj
    · rw [← Array.getElem?_toList]; exact hj
    · cases hj
theorem own_ne7 {w : World} {base : Nat} {e t : TypeId} {size n g : Nat} {v : Value} {xs : List Value} {cs : Array Value} (h : w.ownsRow base e size v n xs) (hg : w.heap[g]? = some (.cells cs t (0, 0))) (hne : e ≠ t) : ∀ q, ownS v q → q ≠ g := fun q hq hqg => by
  subst hqg
  exact own_ne h hg hne hq
theorem Mod.of_grown' {g : Nat} {w w1 : World} (h : Only g w w1) : Mod (fun q => some g = some q) w w1 := ⟨h.os, h.tape, h.output, h.size, fun k hk hn => h.block k hk (fun e => hn e.symm)⟩
theorem below_dr {B : Nat} {w w' : World} (h : Below B w w') (n : Nat) : Below B w (w'.drewN n) := ⟨h.os, h.tape, h.output, h.size, h.block⟩
noncomputable def tkR (bs : List UInt8) (n : Nat) : Nat := if (rdK bs ⟨0, false⟩ n).bad = true then 2 else if (rdK bs ⟨0, false⟩ n).p < bs.length then 3 else if allB (rdL bs ⟨0, false⟩ n) = true then 0 else 3

set_option maxHeartbeats 1000000 in
theorem enTake_limit (A : Option Addr) (l c : Nat) (n : Int) (w : World) (h : inB n 0 200 = false) : Calls Tryd.prog 26 #[.slice A l c, .int .i64 n] w fun e w' => e = .returned (.tuple #[.slice none 0 0, .int .i64 14]) ∧ w = w' := by
  have HW := Lib.hid (fun W => enWithin_any n 0 200 W)
  rw [h] at HW
  clear h
  go_enter Tryd.func26, Tryd.ntmps26
  go_wp2_with (go_at_call 29; refine (HW.out _).mono ?_; rintro e w' ⟨rfl, rfl⟩)
  go_ret2
  exact ⟨rfl, rfl⟩

set_option maxRecDepth 100000 in
set_option maxHeartbeats 8000000 in
theorem enTake_in (A : Option Addr) (l c : Nat) (bs : List UInt8) (B : Nat) (n : Nat) (w : World) (hW : WidE w) (hn : n ≤ 200) (hl : bs.length = l) (hm : l ≤ 1000000000) (hlc : l ≤ c) (hb : Bytes w B A bs) (hB : B ≤ w.heap.size) :
    Calls Tryd.prog 26 #[.slice A l c, .int .i64 (n : Int)] w fun e w' => Below w.heap.size w w' ∧
      ((tkR bs n = 0 ∧ ∃ A' c', e = .returned (.tuple #[.slice A' n c', .int .i64 0]) ∧ w'.ownsRow w.heap.size 34 7 (.slice A' n c') n ((rdL bs ⟨0, false⟩ n).map LM.cells).flatten) ∨ (tkR bs n ≠ 0 ∧ e = .returned (.tuple #[.slice none 0 0, .int .i64 (tkR bs n : Nat)]))) := by
  have HWI := Lib.hid (fun W => enWithin_any (n : Int) 0 200 W)
  rw [show inB (n : Int) 0 200 = true from inB_of (by omega) (by omega)] at HWI
  have HW := Lib.hid hW
  have hw0 := hW.1
  have HBA := Lib.hid hb
  have HL := Lib.hid hl
  obtain ⟨w0, hw0'⟩ : ∃ w0, w.alloc (.cells #[.slice A l c, .int .i64 0, .bool false] 83) = w0 := ⟨_, rfl⟩
  obtain ⟨g, hg⟩ : ∃ g, w.heap.size = g := ⟨_, rfl⟩
  have HNW := Lib.hid (new_any A l c w)
  rw [hw0', hg] at HNW
  have HR0 : Hid (RdS w0 g A l c ⟨0, false⟩) := by rw [← hw0', ← hg]; exact heap_alloc_new w _
  have HB0 : Hid (Below w.heap.size w w0) := by rw [← hw0']; exact (Below.refl w.heap.size w).alloc (Nat.le_refl _) _
  have hgw : w.heap.size ≤ g := by omega
  have hg0 : g ≠ 0 := by omega
  have hBg : B ≤ g := by omega
  have HRL := Lib.hid (fun k => rdL_length bs ⟨0, false⟩ k)
  have HKL := Lib.hid (rdK_le (bs := bs) (s := ⟨0, false⟩) (Nat.zero_le _))
  have HOK := Lib.hid (rdL_ok (bs := bs) (s := ⟨0, false⟩) (by omega))
  have HRD : Hid (tkR bs n = if (rdK bs ⟨0, false⟩ n).bad = true then 2 else if (rdK bs ⟨0, false⟩ n).p < bs.length then 3 else if allB (rdL bs ⟨0, false⟩ n) = true then 0 else 3) := rfl
  clear hW hl hb hw0' hg
  go_enter Tryd.func26, Tryd.ntmps26
  go_wp2_with (first | (go_at_call 29; refine (HWI.out _).mono ?_; rintro e w' ⟨rfl, rfl⟩) | (go_at_call 39; refine HNW.out.mono ?_; rintro e w' ⟨rfl, rfl⟩))
  go_loopg [7, 14] n (fun gk vb i wr => ∃ k : Nat, k + gk = n ∧ i = .int .i64 k ∧ wr.ownsRow w.heap.size 34 7 vb k ((rdL bs ⟨0, false⟩ k).map LM.cells).flatten ∧ RdS wr g A l c (rdK bs ⟨0, false⟩ k) ∧ Below w.heap.size w wr)
  case atStart => exact ⟨0, by omega, rfl, World.ownsRow_nil _ _ _ _, HR0.out, HB0.out⟩
  case round =>
    clear HR0 HB0
    obtain ⟨k, hk, rfl, hown, hrd, hbel⟩ := hrel
    have HOWN := Lib.hid hown
    have HRD2 := Lib.hid hrd
    have HBEL := Lib.hid hbel
    clear hown hrd hbel
    obtain ⟨Ak, ck, rfl⟩ := own_form' HOWN.out
    by_cases h : k < n
    · have HRE := Lib.hid (enRead_any g A l c bs B (rdK bs ⟨0, false⟩ k) wr (HW.out.below HBEL.out hw0 (by have := HBEL.out.size; omega)) HRD2.out HL.out hm hlc (by have := HKL.out k; have := HL.out; omega) (HBA.out.below HBEL.out hB) (Nat.le_trans hB HBEL.out.size) hBg hg0)
      have HNE := Lib.hid (own_ne7 HOWN.out HRD2.out (by decide))
      have HS1 : Hid (((rdL bs ⟨0, false⟩ (k + 1)).map LM.cells).flatten = ((rdL bs ⟨0, false⟩ k).map LM.cells).flatten ++ (rdM bs (rdK bs ⟨0, false⟩ k)).arr.toList) := mems_snoc _ _
      have HS2 : Hid (rdK bs ⟨0, false⟩ (k + 1) = (rdX bs (rdK bs ⟨0, false⟩ k)).2) := rfl
      obtain ⟨m, hm'⟩ : ∃ m, rdM bs (rdK bs ⟨0, false⟩ k) = m := ⟨_, rfl⟩
      rw [hm'] at HRE HS1
      unfold LM.arr at HRE HS1
      clear hm'
      go_wp2_with (first | (go_at_call 40; refine HRE.out.mono ?_; rintro e w2 ⟨rfl, hr2, ho⟩; have HR2 := Lib.hid hr2; have HB2 := Lib.hid (only_below ho HBEL.out HBEL.out.size hgw); have HO2 := Lib.hid (own_keep HOWN.out (Mod.of_grown' ho) (fun q hq e => HNE.out q hq (by injection e with e; exact e.symm))); have hz2 := HB2.out.size; clear hr2 ho) | (at_builtin; go_must (skip; refine wpList_app1 _ memElem rfl (.tmp 16) (.tmp 19) rfl w.heap.size (.slice Ak k ck) k _ rfl HO2.out _ rfl rfl (by simp [Value.oneCell']) (by unfold maxLen; omega) (by omega) hz2 ?_; intro A3 c3 w3 hA; have HA := Lib.hid hA; clear hA)))
      go_roundg (gk - 1)
      case measure => omega
      case rel =>
        refine ⟨k + 1, by omega, by go_num, by rw [HS1.out]; exact HA.out.own, ?_, HA.out.below HB2.out HB2.out.size (fun q hq => (HO2.out.lt q hq).1)⟩
        rw [HS2.out]
        exact (HA.out.grow.block g HR2.out.lt (fun e => own_ne7 HO2.out HR2.out (by decide) g e.symm rfl)).trans HR2.out
    · obtain rfl : k = n := by omega
      have hkl := HRL.out k
      obtain ⟨p, bad, hst⟩ : ∃ p bad, rdK bs ⟨0, false⟩ k = ⟨p, bad⟩ := ⟨_, _, rfl⟩
      have hpl : p ≤ l := by have := HKL.out k; rw [hst, HL.out] at this; exact this
      rw [hst] at HRD2 HRD
      rw [HL.out] at HRD
      have HRD3 : Hid (Rd wr g A l c (p : Int) bad) := HRD2.out
      have HAL := Lib.hid (fun n => enAll_any Ak k ck (rdL bs ⟨0, false⟩ k) wr.heap.size (wr.drewN n) hkl (HOK.out k) ((cells_of_own7 HOWN.out).drewN' n) (Nat.le_refl _))
      clear hst hkl
      cases bad with
      | true =>
        have HR6 : Hid (tkR bs k = 2) := HRD.out
        go_wp2_with (go_at_call 41; refine (ok_any g A l c _ _ _ HRD3.out).mono ?_; rintro e w' ⟨rfl, rfl⟩)
        go_ret2
        exact ⟨HBEL.out, .inr ⟨by rw [HR6.out]; decide, by rw [HR6.out]; rfl⟩⟩
      | false =>
        have HLF := Lib.hid (left_any g A l c (p : Int) false wr HRD3.out (by omega) (by omega) (by omega))
        by_cases hp : p < l
        · have HR6 : Hid (tkR bs k = 3) := by show _ = _; rw [HRD.out, if_neg (by simp), if_pos hp]
          have hd : decide ((0 : Int) < (l : Int) - (p : Int)) = true := by simp; omega
          have hd2 : decide ((p : Int) < (l : Int)) = true := by simp; omega
          go_wp2_with (first | (go_at_call 41; refine (ok_any g A l c _ _ _ HRD3.out).mono ?_; rintro e w' ⟨rfl, rfl⟩) | (go_at_call 42; refine HLF.out.mono ?_; rintro e w' ⟨rfl, nq, rfl⟩))
          go_ret2
          exact ⟨below_dr HBEL.out nq, .inr ⟨by rw [HR6.out]; decide, by rw [HR6.out]; rfl⟩⟩
        · have hd : decide ((0 : Int) < (l : Int) - (p : Int)) = false := by simp; omega
          have hd2 : decide ((p : Int) < (l : Int)) = false := by simp; omega
          obtain ⟨al, hal⟩ : ∃ al, allB (rdL bs ⟨0, false⟩ k) = al := ⟨_, rfl⟩
          rw [hal] at HAL
          have HR5 : Hid (tkR bs k = if al = true then 0 else 3) := by show _ = _; rw [HRD.out, if_neg (by simp), if_neg hp, hal]
          clear hal
          cases al with
          | false =>
            have HR6 : Hid (tkR bs k = 3) := HR5.out
            go_wp2_with (first | (go_at_call 41; refine (ok_any g A l c _ _ _ HRD3.out).mono ?_; rintro e w' ⟨rfl, rfl⟩) | (go_at_call 42; refine HLF.out.mono ?_; rintro e w' ⟨rfl, nq, rfl⟩) | (go_at_call 12; refine (HAL.out _).mono ?_; rintro e w3 ⟨rfl, hb⟩; have HB3 := Lib.hid ((below_dr HBEL.out nq).trans (hb.mono HBEL.out.size)); clear hb))
            go_ret2
            exact ⟨HB3.out, .inr ⟨by rw [HR6.out]; decide, by rw [HR6.out]; rfl⟩⟩
          | true =>
            have HR6 : Hid (tkR bs k = 0) := HR5.out
            go_wp2_with (first | (go_at_call 41; refine (ok_any g A l c _ _ _ HRD3.out).mono ?_; rintro e w' ⟨rfl, rfl⟩) | (go_at_call 42; refine HLF.out.mono ?_; rintro e w' ⟨rfl, nq, rfl⟩) | (go_at_call 12; refine (HAL.out _).mono ?_; rintro e w3 ⟨rfl, hb⟩; have HB3 := Lib.hid ((below_dr HBEL.out nq).trans (hb.mono HBEL.out.size)); have HO3 := Lib.hid (own_keep (show (wr.drewN nq).ownsRow _ _ _ _ _ _ from HOWN.out) (Mod.of_below hb) (fun _ _ h => h)); clear hb))
            go_ret2
            exact ⟨HB3.out, .inl ⟨HR6.out, Ak, ck, rfl, HO3.out⟩⟩
end Go.Proofs.YthnoobhjkhafcaaDoor
