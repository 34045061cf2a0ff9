/- Layer 4, the document's answer: Sync. -/
import Derived.Test.YtjedhemjojcekaaDiskRs
namespace Go.Proofs.Ytjedhemjojcekaa
open Go.RowKit
attribute [local go_sem ↓] Go.wp_at_zero Go.wp_at_succ

theorem own_cell1 {w : World} {base b n c j : Nat} {e : TypeId} {xs : List Value} {u : Value} (h : w.ownsRow base e 1 (.slice (some ⟨b, 0, none⟩) n c) n xs) (hj : xs[j]? = some u) : w.cell? ⟨b, j, none⟩ = some u ∧ w.frozen? ⟨b, j, none⟩ = false := by
  obtain ⟨cur, hh, h1, h2, _⟩ := own_row h
  refine ⟨?_, frozen_of_row _ _ _ _ _ hh⟩
  rw [cell_of_row _ _ _ _ _ _ hh]
  rw [← h2, List.getElem?_take] at hj
  split at hj
  · simpa using hj
  · cases hj

theorem RfL.drew {w : World} {g base : Nat} {nw sf : List (List UInt8)} {hs : List Bool} {wt : List (Nat × List UInt8)} {A1 A2 A3 A4 : Option Addr} {c1 c2 c3 c4 : Nat} (h : RfL w g base nw sf hs wt A1 c1 A2 c2 A3 c3 A4 c4) : RfL w.drew g base nw sf hs wt A1 c1 A2 c2 A3 c3 A4 c4 := ⟨h.blk, h.o1, h.o2, h.o3, h.o4, h.apart⟩
/-- Nothing waits any more. -/
theorem RfL.noWait {w : World} {g base : Nat} {nw sf : List (List UInt8)} {hs : List Bool} {wt : List (Nat × List UInt8)} {A1 A2 A3 A4 : Option Addr} {c1 c2 c3 c4 : Nat} (h : RfL w g base nw sf hs wt A1 c1 A2 c2 A3 c3 A4 c4) :
    RfL (w.setCell ⟨g, 3, none⟩ (.slice none 0 0)) g base nw sf hs [] A1 c1 A2 c2 A3 c3 none 0 ∧ Mod (oneB g) w (w.setCell ⟨g, 3, none⟩ (.slice none 0 0)) := by
  have hm : Mod (oneB g) w (w.setCell ⟨g, 3, none⟩ (.slice none 0 0)) := (Mod.refl _ w).set _ _ (.inl rfl)
  exact ⟨⟨heap_setCell_same w g 3 _ _ _ h.blk, own_keep h.o1 hm (fun k hk he => h.ne1 (he ▸ hk)), own_keep h.o2 hm (fun k hk he => h.ne2 (he ▸ hk)), own_keep h.o3 hm (fun k hk he => h.ne3 (he ▸ hk)), World.ownsRow_nil _ _ _ _, h.apart⟩, hm⟩

set_option maxRecDepth 100000 in
set_option maxHeartbeats 1000000 in
theorem rsync_any (g base : Nat) (S : Nat → Prop) (now safe : List UInt8) (waits : List (Nat × List UInt8)) (w : World) (h : RfS w g base S now safe waits) (hm : now.length ≤ 2097152) :
    Calls Try.prog 13 #[.pointer (some ⟨g, 0, none⟩)] w fun e w' => e = .returned (.tuple #[]) ∧ ∃ S', RfS w' g base S' now now [] ∧ Mod S w w' ∧ ∀ k, S' k → S k ∨ w.heap.size ≤ k := by
  obtain ⟨A1, c1, A2, c2, A3, c3, A4, c4, h, rfl⟩ := h
  obtain ⟨z, hz⟩ : ∃ z, z = now.length / 512 := ⟨_, rfl⟩
  have HZ := Lib.hid hz
  have hz6 : z ≤ 4096 := by omega
  obtain ⟨nw, hnw⟩ : ∃ nw, nw = sectors now := ⟨_, rfl⟩
  have HNW := Lib.hid hnw
  have HN1 : Hid (nw.length = z) := by show _ = _; rw [hnw, sectors_length, hz]
  obtain ⟨sf, hsf⟩ : ∃ sf, sf = safes z safe := ⟨_, rfl⟩
  have HN2 : Hid (sf.length = z) := by show _ = _; rw [hsf, safes_length]
  obtain ⟨hs, hhs⟩ : ∃ hs, hs = hass z safe := ⟨_, rfl⟩
  have HN3 : Hid (hs.length = z) := by show _ = _; rw [hhs, hass_length]
  rw [← hz, ← hnw, ← hsf, ← hhs] at h ⊢
  obtain ⟨S0, hS0⟩ : ∃ S0, S0 = rS g (.slice A1 nw.length c1) (.slice A2 sf.length c2) (.slice A3 hs.length c3) (.slice A4 waits.length c4) := ⟨_, rfl⟩
  rw [← hS0]
  have HS0 := Lib.hid hS0
  have HH := Lib.hid h
  clear h hS0 hz hnw hsf hhs hm
  go_enter Try.func13, Try.ntmps13
  go_wp2
  go_loopg [2] z (fun gk v wr => ∃ i : Nat, i + gk = z ∧ v = .int .i64 (i : Int) ∧ RfL wr g base nw (mix nw sf i) (mix (List.replicate z true) hs i) waits A1 c1 A2 c2 A3 c3 A4 c4 ∧ Mod S0 w wr)
  case atStart => exact ⟨0, by omega, rfl, by rw [mix_zero, mix_zero]; exact HH.out, Mod.refl _ _⟩
  case round =>
    clear HH
    obtain ⟨i, hi, rfl, hr, hmod⟩ := hrel
    have HR := Lib.hid hr
    have HM := Lib.hid hmod
    have hb := hr.blk
    have e2 : (mix nw sf i).length = z := by rw [mix_length _ _ _ (by rw [HN1.out, HN2.out])]; exact HN2.out
    have e3 : (mix (List.replicate z true) hs i).length = z := by rw [mix_length _ _ _ (by rw [List.length_replicate, HN3.out])]; exact HN3.out
    rw [HN1.out, e2, e3] at hb
    obtain ⟨k0, k1, k2, k3, f0, f1, f2, f3⟩ := hb.cells
    have E2 := Lib.hid e2
    have E3 := Lib.hid e3
    clear hb hr hmod e2 e3
    by_cases hiz : i < z
    · have ho1 := HR.out.o1
      have ho2 := HR.out.o2
      have ho3 := HR.out.o3
      rw [HN1.out] at ho1
      rw [E2.out] at ho2
      rw [E3.out] at ho3
      rcases own_A ho1 with ⟨_, h0, _⟩ | ⟨b1, rfl⟩
      · omega
      rcases own_A ho2 with ⟨_, h0, _⟩ | ⟨b2, rfl⟩
      · omega
      rcases own_A ho3 with ⟨_, h0, _⟩ | ⟨b3, rfl⟩
      · omega
      have hc1 : z ≤ c1 := own_cap4 ho1
      have hc2 : z ≤ c2 := own_cap4 ho2
      have hc3 : z ≤ c3 := own_cap4 ho3
      obtain ⟨x, hx⟩ := get_lt (bs := nw) (k := i) (by rw [HN1.out]; exact hiz)
      obtain ⟨q1, _⟩ := own_cell1 (j := i) (u := .string ⟨x.toArray⟩) ho1 (by simp [strCells, hx])
      obtain ⟨y2, hy2⟩ := get_lt (bs := strCells (mix nw sf i)) (k := i) (by rw [strCells_length, E2.out]; exact hiz)
      obtain ⟨q2, r2⟩ := own_cell1 ho2 hy2
      obtain ⟨y3, hy3⟩ := get_lt (bs := boolCells (mix (List.replicate z true) hs i)) (k := i) (by simp only [boolCells, List.length_map]; rw [E3.out]; exact hiz)
      obtain ⟨q3, r3⟩ := own_cell1 ho3 hy3
      have n2 := HR.out.ne2
      have n3 := HR.out.ne3
      have m2 : ¬ (b2 = g) := fun h => n2 (by rw [← h]; rfl)
      have m3 : ¬ (b3 = g) := fun h => n3 (by rw [← h]; rfl)
      have m23 : ¬ (b3 = b2) := fun h => own_ne2 ho2 ho3 (by decide) b2 rfl (by rw [← h]; rfl)
      have m2' : ¬ (g = b2) := fun h => m2 h.symm
      have m3' : ¬ (g = b3) := fun h => m3 h.symm
      have m23' : ¬ (b2 = b3) := fun h => m23 h.symm
      have HX := Lib.hid hx
      clear hx hy2 hy3 n2 n3 ho1 ho2 ho3
      go_wp2
      go_still_tail 13, (by kernel_rfl)
      repeat still_step
      change wpList _ _ _ _ _ wr.drew
      go_wp2
      go_roundg (gk - 1)
      case measure => omega
      case rel =>
        obtain ⟨s1, t1⟩ := HR.out.setSafe (i := i) x (by rw [E2.out]; exact hiz)
        obtain ⟨s2, t2⟩ := s1.setHas (i := i) true (by rw [E3.out]; exact hiz)
        rw [mix_set _ _ _ _ (by rw [HN1.out, HN2.out]) HX.out, mix_set _ _ _ _ (by rw [List.length_replicate, HN3.out]) (by simp [hiz])] at s2
        have hS2 : ∀ k, oneB b2 k → S0 k := fun k hk => by rw [HS0.out, show k = b2 from hk]; exact rS_2 _ rfl
        have hS3 : ∀ k, oneB b3 k → S0 k := fun k hk => by rw [HS0.out, show k = b3 from hk]; exact rS_3 _ rfl
        exact ⟨i + 1, by omega, rfl, s2.drew, ((HM.out.then_ (t1.mono hS2)).then_ (t2.mono hS3)).drew⟩
    · obtain rfl : i = z := by omega
      have hr := HR.out
      have e2 : mix nw sf i = nw := by
        have := mix_end nw sf (by rw [HN1.out, HN2.out])
        rwa [HN2.out] at this
      have e3 : mix (List.replicate i true) hs i = List.replicate i true := by
        have := mix_end (List.replicate i true) hs (by rw [List.length_replicate, HN3.out])
        rwa [HN3.out] at this
      rw [e2, e3] at hr
      obtain ⟨s1, t1⟩ := hr.noWait
      have HS1 := Lib.hid s1
      have HT1 := Lib.hid t1
      clear e2 e3 hr s1 t1
      go_wp2
      go_end0
      have hs1 := HS1.out
      have e4 : safes (now.length / 512) now = nw := by rw [safes_all]; exact HNW.out.symm
      have e5 : hass (now.length / 512) now = List.replicate i true := by rw [hass_all, ← HZ.out]
      refine ⟨rfl, _, ⟨A1, c1, A2, c2, A3, c3, none, 0, by rw [e4, e5, ← HNW.out]; exact hs1, rfl⟩, HM.out.then_ (HT1.out.mono (fun k hk => by rw [HS0.out]; exact .inl hk)), ?_⟩
      rw [e4, e5, ← HNW.out, HN1.out, List.length_replicate, HS0.out, HN1.out, HN2.out, HN3.out]
      rintro k (hk | hk | hk | hk | hk)
      · exact .inl (.inl hk)
      · exact .inl (rS_1 k hk)
      · exact .inl (rS_2 k hk)
      · exact .inl (rS_3 k hk)
      · cases hk
end Go.Proofs.Ytjedhemjojcekaa
