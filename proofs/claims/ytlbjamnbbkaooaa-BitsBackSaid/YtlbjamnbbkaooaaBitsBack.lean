/- The walk of BitsBack. -/
import Derived.Test.YtlbjamnbbkaooaaBitsRe
import Derived.Test.YtlbjamnbbkaooaaBitsWrites
namespace Go.Proofs.Ytlbjamnbbkaooaa
open Go.RowKit BitsP
attribute [local go_sem ↓] Go.wp_at_zero Go.wp_at_succ

theorem back3_big (A1 : Option Addr) (l1 c1 : Nat) (w : World) (h : 100 < l1) :
    Calls Try.prog 9 #[.slice A1 l1 c1] w fun e w' => e = .returned (.bool true) ∧ Below w.heap.size w w' := by
  have h2 : (100 : Int) < (l1 : Int) := by omega
  clear h
  go_enter Try.func9, Try.ntmps9
  go_wp2_with (go_at_call 22; refine (lives3_any _).mono ?_; rintro e w4 ⟨rfl, hb4⟩; have HB4 := Lib.hid hb4; clear hb4)
  go_ret
  exact ⟨rfl, HB4.out⟩

/-- A part's bits: its number, and how many. -/
def BPart.nq (r : BPart) : Nat × Nat := (r.n.toNat, cnt r.bits)

set_option maxRecDepth 100000 in
set_option maxHeartbeats 2000000 in
theorem back3_walk (Y : Option Addr) (l1 cY : Nat) (rs : List BPart) (w : World) (hl1 : rs.length = l1) (hm1 : l1 ≤ 100)
    (hg : ∀ r ∈ rs, r.good) (hs : ∀ r ∈ rs, (r.code).length = 2) (hb1 : Cells w w.heap.size Y (rs.map BPart.code).flatten) :
    Calls Try.prog 9 #[.slice Y l1 cY] w fun e w' => e = .returned (.bool true) ∧ Below w.heap.size w w' := by
  have HL1 := Lib.hid hl1
  have HG := Lib.hid hg
  have HS := Lib.hid hs
  have HB1 : Hid (Cells w w.heap.size Y (rs.map BPart.code).flatten) := hb1
  clear hl1 hg hs hb1
  have hbi2 : ¬ (100 : Int) < (l1 : Int) := by omega
  have HFB : Hid (∀ k, (flatB ((rs.take k).map BPart.nq)).length ≤ 3200) := fun k => by
    have h := flatB_bound ((rs.take k).map BPart.nq) (fun x hx => by obtain ⟨r, _, rfl⟩ := List.mem_map.1 hx; exact cnt_le _)
    rw [List.length_map, List.length_take, HL1.out] at h
    omega
  have HPART : Hid (∀ k, k < l1 → ∃ (n q : Nat) (b : Int) (b₁ o₁ : Nat), n < 4294967296 ∧ q = cnt b ∧ (-9223372036854775808 ≤ b ∧ b ≤ 9223372036854775807) ∧ Y = some ⟨b₁, o₁, none⟩ ∧
      (∀ W, Below w.heap.size w W → W.cell? ⟨b₁, o₁ + k * 2, none⟩ = some (.int .u32 (n : Int)) ∧ W.cell? ⟨b₁, o₁ + k * 2 + 1, none⟩ = some (.int .i64 b)) ∧ (rs.map BPart.nq)[k]? = some (n, q)) := fun k hkl => by
    obtain ⟨x, hxi⟩ := get_lt (bs := rs) (k := k) (by rw [HL1.out]; exact hkl)
    obtain ⟨⟨n0, n1⟩, b0, b1⟩ := HG.out x (List.mem_of_getElem? hxi)
    have hpos : 0 < ((rs.map BPart.code).flatten).length := (List.getElem?_eq_some_iff.1 (code_at (s := 2) (j := 0) HS.out hxi rfl)).1 |> fun h => by omega
    obtain ⟨b₁, o₁, he, hbB, hcell⟩ := HB1.out hpos
    have hn : ((x.n.toNat : Nat) : Int) = x.n := Int.toNat_of_nonneg n0
    refine ⟨x.n.toNat, cnt x.bits, x.bits, b₁, o₁, by omega, rfl, ⟨b0, b1⟩, he, fun W hW => ⟨?_, ?_⟩, by rw [List.getElem?_map, hxi]; rfl⟩
    · rw [hn]
      exact (hW.cell (p := ⟨b₁, o₁ + k * 2, none⟩) hbB).trans (hcell _ _ (code_at (s := 2) (j := 0) HS.out hxi rfl))
    · exact (hW.cell (p := ⟨b₁, o₁ + k * 2 + 1, none⟩) hbB).trans (hcell _ _ (code_at (s := 2) (j := 1) HS.out hxi rfl))
  clear HG HS HB1
  go_enter Try.func9, Try.ntmps9
  go_wp2
  have HW0 := Lib.hid (WrS.zero (w := w.alloc (.cells zeroWr 47)) w.heap.size (heap_alloc_new w _))
  have HBEL0 := Lib.hid ((Below.refl w.heap.size w).alloc (Nat.le_refl _) (.cells zeroWr 47))
  go_loopg [4] l1 (fun gk i wr => ∃ (k : Nat) (S : Nat → Prop), k + gk = l1 ∧ i = .int .i64 k ∧ WrS wr w.heap.size w.heap.size S (flatB ((rs.take k).map BPart.nq)) ∧ Below w.heap.size w wr ∧ (∀ j, S j → w.heap.size ≤ j))
  case atStart => exact ⟨0, oneB w.heap.size, by omega, rfl, HW0.out, HBEL0.out, fun k hk => by cases hk; exact Nat.le_refl _⟩
  case round =>
    obtain ⟨k, S, hk, rfl, hwr, hbel, hS⟩ := hrel
    have HWR := Lib.hid hwr
    have HBEL := Lib.hid hbel
    have HSB := Lib.hid hS
    clear hwr hbel hS HW0 HBEL0
    by_cases hkl : k < l1
    · obtain ⟨n, q, b, b₁, o₁, hn, rfl, ⟨b0, b1⟩, rfl, hcell, hnq⟩ := HPART.out k hkl
      have HCELL := Lib.hid hcell
      obtain ⟨hc0, hc1⟩ := HCELL.out _ HBEL.out
      have HFT : Hid (flatB ((rs.take (k + 1)).map BPart.nq) = flatB ((rs.take k).map BPart.nq) ++ bitsOf n (cnt b)) := by
        have := flatB_take hnq
        rw [← List.map_take, ← List.map_take] at this
        exact this
      have hfb := HFB.out k
      clear hcell hnq
      go_wp2_with fail
      go_still_tail 10, (by kernel_rfl)
      change wpList _ _ _ _ _ wr.drew
      have HWR3 : Hid (WrS wr.drew w.heap.size w.heap.size S (flatB ((rs.take k).map BPart.nq))) := HWR.out
      have HBEL3 := Lib.hid HBEL.out.drew
      clear HWR HBEL hc0 hc1
      generalize wr.drew = w3 at *
      go_wp2_with fail
      refine (wput_any w.heap.size w.heap.size S _ (n : Int) b w3 HWR3.out (by omega) HBEL3.out.size (by omega) (by omega) b0 b1).mono ?_
      rintro e w4 ⟨rfl, S4, hw, hm, hs⟩
      rw [Int.toNat_natCast, ← HFT.out] at hw
      have HWR4 := Lib.hid hw
      have HBEL4 := Lib.hid (hm.below HBEL3.out HBEL3.out.size HSB.out)
      have HS4 : Hid (∀ j, S4 j → w.heap.size ≤ j) := fun j hj => by
        rcases hs j hj with h | h
        · exact HSB.out j h
        · have := HBEL3.out.size; omega
      clear hw hm hs HWR3 HBEL3
      go_wp2
      go_roundg (gk - 1)
      case measure => omega
      case rel => exact ⟨k + 1, S4, by omega, by go_num, HWR4.out, HBEL4.out, HS4.out⟩
    · obtain rfl : l1 = k := by omega
      have HK : Hid (rs.take l1 = rs) := List.take_of_length_le (by rw [HL1.out]; exact Nat.le_refl _)
      rw [HK.out] at HWR
      have hfl := HFB.out l1
      rw [HK.out] at hfl
      have HPS := Lib.hid (pack_size (flatB (rs.map BPart.nq)))
      have hlk : lack (flatB (rs.map BPart.nq)).length < 8 := Nat.mod_lt _ (by omega)
      go_wp2_with fail
      refine (wbytes_any w.heap.size w.heap.size S _ wr HWR.out (by omega)).mono ?_
      rintro e w5 ⟨A5, c5, rfl, hown, hbel⟩
      have HO5 := Lib.hid (Cells.of_own hown)
      have HWR5 := Lib.hid (HWR.out.keep (Mod.of_below hbel) (fun _ _ h => h))
      have HBEL5 := Lib.hid (HBEL.out.trans (hbel.mono HBEL.out.size))
      clear hown hbel HWR HBEL
      generalize hPP : pack (flatB (rs.map BPart.nq)) = P at *
      have HPP := Lib.hid hPP
      clear hPP
      go_wp2_with fail
      have hpl : P.length ≤ 1000 := by have := HPS.out; omega
      refine (rnew_any A5 P.length c5 w5.heap.size P w5 rfl (by omega) (Nat.le_refl _) HO5.out).mono ?_
      rintro e w6 ⟨g, S6, rfl, hrd, hbel, hs6⟩
      have HRD := Lib.hid hrd
      have HWR6 := Lib.hid (HWR5.out.keep (Mod.of_below hbel) (fun _ _ h => h))
      have HBEL6 := Lib.hid (HBEL5.out.trans (hbel.mono HBEL5.out.size))
      have HG6 : Hid (w.heap.size ≤ g) := by
        obtain ⟨_, _, _, _, rfl, _⟩ := hrd
        have := hs6 g (.inl rfl)
        have := HBEL5.out.size
        show _ ≤ _
        omega
      have HNG : Hid (∀ j, S j → ¬ oneB g j) := fun j hj (he : j = g) => by
        obtain ⟨_, _, _, _, rfl, _⟩ := hrd
        have := hs6 g (.inl rfl)
        have := HWR5.out.lt j hj
        omega
      clear hrd hbel hs6 HWR5 HBEL5 HO5
      generalize hB6 : w5.heap.size = B6 at *
      clear hB6
      go_wp2
      go_loopg [6] l1 (fun gk i wr => ∃ (k : Nat), k + gk = l1 ∧ i = .int .i64 k ∧ RdS wr g B6 S6 P (flatB ((rs.take k).map BPart.nq)).length ∧ WrS wr w.heap.size w.heap.size S (flatB (rs.map BPart.nq)) ∧ Below w.heap.size w wr)
      case atStart => exact ⟨0, by omega, rfl, HRD.out, HWR6.out, HBEL6.out⟩
      case round =>
        obtain ⟨i, hi, rfl, hrd, hwr, hbel⟩ := hrel
        have HRD7 := Lib.hid hrd
        have HWR7 := Lib.hid hwr
        have HBEL7 := Lib.hid hbel
        clear hrd hwr hbel HRD HWR6 HBEL6
        by_cases hil : i < l1
        · obtain ⟨n, q, b, b₁, o₁, hn, hqe, ⟨b0, b1⟩, rfl, hcell, hnq⟩ := HPART.out i hil
          have HCELL := Lib.hid hcell
          obtain ⟨hc0, hc1⟩ := HCELL.out _ HBEL7.out
          have hread := flatB_read hnq
          rw [HPP.out] at hread
          have hfl2 := flatB_len hnq
          have hft := flatB_take hnq
          rw [← List.map_take] at hread hfl2 hft
          rw [← List.map_take] at hft
          have HFT := Lib.hid hft
          have hq32 : q ≤ 32 := by rw [hqe]; exact cnt_le b
          have HPEEK := Lib.hid (rpeek_any g B6 S6 P _ b wr HRD7.out (by omega) b0 b1)
          have HTAKE := Lib.hid (fun W h => rtake_any g B6 S6 P (flatB ((rs.take i).map BPart.nq)).length b W h (by omega) b0 b1)
          have HWID := Lib.hid (fun W => width3_any b W b0 b1)
          rw [← hqe] at HPEEK HTAKE HWID
          rw [hread] at HPEEK
          have hfit : (flatB ((rs.take i).map BPart.nq)).length + q ≤ 8 * P.length := by have := HPS.out; omega
          rw [(fits_yes hfit).1, (fits_yes hfit).2, takes_yes hfit, hread] at HTAKE
          have HLEN : Hid ((flatB ((rs.take (i + 1)).map BPart.nq)).length = (flatB ((rs.take i).map BPart.nq)).length + q) := by show _ = _; rw [HFT.out, List.length_append, bitsOf_length]
          clear hcell hnq hread hft hqe hfit hfl2
          have hP := p2_pos q
          have hP32 := p2_lt32 hq32
          have hy := Nat.mod_lt n hP
          have hyn : n % p2 q ≤ n := Nat.mod_le _ _
          have hsh : (2 : Int) ^ q = (p2 q : Int) := pow_int q
          have hmd : (n : Int) % (p2 q : Int) = ((n % p2 q : Nat) : Int) := by simp
          have h32 : q = 32 → n % p2 q = n := fun h => by subst h; exact Nat.mod_eq_of_lt hn
          have hlt32 : q < 32 → p2 q < 4294967296 := fun h => Nat.lt_of_le_of_lt (p2_le (show q ≤ 31 by omega)) (by decide)
          by_cases hq : q < 32
          · have hPl := hlt32 hq
            have hwr' : IntKind.u32.wrap (p2 q : Int) = (p2 q : Int) := IntWalk.u32_in _ (by omega)
            clear h32 hlt32
            generalize n % p2 q = y at *
            generalize p2 q = PP at *
            go_wp2_with fail
            refine (HWID.out _).mono ?_
            rintro e w' ⟨rfl, rfl⟩
            go_wp2_with fail
            refine HPEEK.out.mono ?_
            rintro e w8 ⟨rfl, nd, rfl⟩
            have HRD8 := Lib.hid (HRD7.out.drewN nd)
            have HWR8 := Lib.hid (HWR7.out.keep (Mod.refl noB wr |>.drewN nd) (fun _ _ h => h))
            have HBEL8 := Lib.hid (below_drewN HBEL7.out nd)
            obtain ⟨hd0, hd1⟩ := HCELL.out _ HBEL8.out
            clear HRD7 HWR7 HBEL7 hc0 hc1 HPEEK
            generalize wr.drewN nd = w8 at *
            go_wp2_with fail
            refine (HTAKE.out _ HRD8.out).mono ?_
            rintro e w9 ⟨rfl, hrd, hmod⟩
            rw [← HLEN.out] at hrd
            have HRD9 := Lib.hid hrd
            have HWR9 := Lib.hid (HWR8.out.keep hmod HNG.out)
            have HBEL9 := Lib.hid (hmod.below HBEL8.out HBEL8.out.size (fun j (hj : j = g) => by subst hj; exact HG6.out))
            clear hrd hmod HRD8 HWR8 HBEL8 hd0 hd1
            go_wp2
            go_roundg (gk - 1)
            case measure => omega
            case rel => exact ⟨i + 1, by omega, by go_num, HRD9.out, HWR9.out, HBEL9.out⟩
          · obtain rfl : q = 32 := by omega
            have hyy := h32 rfl
            rw [hyy] at HPEEK HTAKE
            clear h32 hlt32 hy hyn hsh hmd hyy hP hP32
            go_wp2_with fail
            refine (HWID.out _).mono ?_
            rintro e w' ⟨rfl, rfl⟩
            go_wp2_with fail
            refine HPEEK.out.mono ?_
            rintro e w8 ⟨rfl, nd, rfl⟩
            have HRD8 := Lib.hid (HRD7.out.drewN nd)
            have HWR8 := Lib.hid (HWR7.out.keep (Mod.refl noB wr |>.drewN nd) (fun _ _ h => h))
            have HBEL8 := Lib.hid (below_drewN HBEL7.out nd)
            obtain ⟨hd0, hd1⟩ := HCELL.out _ HBEL8.out
            clear HRD7 HWR7 HBEL7 hc0 hc1 HPEEK
            generalize wr.drewN nd = w8 at *
            go_wp2_with fail
            refine (HTAKE.out _ HRD8.out).mono ?_
            rintro e w9 ⟨rfl, hrd, hmod⟩
            rw [← HLEN.out] at hrd
            have HRD9 := Lib.hid hrd
            have HWR9 := Lib.hid (HWR8.out.keep hmod HNG.out)
            have HBEL9 := Lib.hid (hmod.below HBEL8.out HBEL8.out.size (fun j (hj : j = g) => by subst hj; exact HG6.out))
            clear hrd hmod HRD8 HWR8 HBEL8 hd0 hd1
            go_wp2
            go_roundg (gk - 1)
            case measure => omega
            case rel => exact ⟨i + 1, by omega, by go_num, HRD9.out, HWR9.out, HBEL9.out⟩
        · obtain rfl : i = l1 := by omega
          rw [HK.out] at HRD7
          have HLEFT := Lib.hid (rleft_any g B6 S6 P _ wr HRD7.out (by omega))
          have HPEEK := Lib.hid (fun W h => rpeek_any g B6 S6 P (flatB (rs.map BPart.nq)).length 8 W h (by omega) (by omega) (by omega))
          have hend := flatB_end (rs.map BPart.nq) 8
          rw [HPP.out] at hend
          rw [show cnt 8 = 8 from rfl, hend] at HPEEK
          have HWL : Hid (∀ W, WrS W w.heap.size w.heap.size S (flatB (rs.map BPart.nq)) → _) := fun W h => wlen_any w.heap.size w.heap.size S (flatB (rs.map BPart.nq)) W h (by omega)
          have h8 : 8 * P.length - (flatB (rs.map BPart.nq)).length < 8 := by have := HPS.out; omega
          clear hend
          generalize 8 * P.length - (flatB (rs.map BPart.nq)).length = lf at *
          generalize (flatB (rs.map BPart.nq)).length = fl at *
          go_wp2_with fail
          refine HLEFT.out.mono ?_
          rintro e w8 ⟨rfl, nd, rfl⟩
          have HRD8 := Lib.hid (HRD7.out.drewN nd)
          have HWR8 := Lib.hid (HWR7.out.keep (Mod.refl noB wr |>.drewN nd) (fun _ _ h => h))
          have HBEL8 := Lib.hid (below_drewN HBEL7.out nd)
          clear HRD7 HWR7 HBEL7 HLEFT
          generalize wr.drewN nd = w8 at *
          go_wp2_with fail
          refine (HPEEK.out _ HRD8.out).mono ?_
          rintro e w9 ⟨rfl, nd2, rfl⟩
          have HRD9 := Lib.hid (HRD8.out.drewN nd2)
          have HWR9 := Lib.hid (HWR8.out.keep (Mod.refl noB w8 |>.drewN nd2) (fun _ _ h => h))
          have HBEL9 := Lib.hid (below_drewN HBEL8.out nd2)
          clear HRD8 HWR8 HBEL8 HPEEK
          generalize w8.drewN nd2 = w9 at *
          go_wp2_with fail
          refine (rat_any g B6 S6 P fl w9 HRD9.out).mono ?_
          rintro e w' ⟨rfl, rfl⟩
          go_wp2_with fail
          refine (HWL.out _ HWR9.out).mono ?_
          rintro e w10 ⟨rfl, nd3, rfl⟩
          have HBEL10 := Lib.hid (below_drewN HBEL9.out nd3)
          generalize w9.drewN nd3 = w10 at *
          go_wp2_with (go_at_call 22; refine (lives3_any _).mono ?_; rintro e w4 ⟨rfl, hb4⟩; have HB4 := Lib.hid hb4; clear hb4)
          go_ret
          exact ⟨rfl, HBEL10.out.trans (HB4.out.mono HBEL10.out.size)⟩

theorem back3_all (Y : Option Addr) (l1 cY : Nat) (w : World) (h1 : Lies w (.slice (.cons (.int .u32) (.cons (.int .i64) .nil))) [.slice Y l1 cY]) :
    Calls Try.prog 9 #[.slice Y l1 cY] w fun e w' => e = .returned (.bool true) ∧ Below w.heap.size w w' := by
  by_cases h : 100 < l1
  · exact back3_big Y l1 cY w h
  · obtain ⟨rs, hl1, _, hg, hs, hc⟩ := parts_of_lies h1
    exact back3_walk Y l1 cY rs w hl1 (by omega) hg hs hc
end Go.Proofs.Ytlbjamnbbkaooaa
