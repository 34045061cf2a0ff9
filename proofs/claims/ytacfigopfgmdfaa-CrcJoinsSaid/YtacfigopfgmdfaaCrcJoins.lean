/- The walk of CrcJoins. -/
import Derived.Test.YtacfigopfgmdfaaCrcRef
namespace Go.Proofs.Ytacfigopfgmdfaa
open Go.RowKit CrcP

theorem byteInfo : (Try.prog.info? 5).map (fun i => (i.zero, i.size, i.bytes)) = some (some (.int .u8 0), 1, 1) := by kernel_rfl

theorem max_xor {t : Nat} (ht : t < 4294967296) : bits .xor .u32 IntKind.u32.max (t : Int) = ((t ^^^ 4294967295 : Nat) : Int) := by
  rw [Nat.xor_comm, ← u32_xor_nat 4294967295 t (by omega) ht]
  rfl

/-- A row of the call's own was written, and blocks were made: below the row all is as it was. -/
theorem below_of_row {a w w' : World} {v : Value} {o : Obj} (h : Below a.heap.size a w) (hg : (w.alloc o).grownBy w' v.ownBlock) (hv : ∀ k, v.ownBlock = some k → a.heap.size ≤ k := by simp [Value.ownBlock]) : Below a.heap.size a w' :=
  (h.alloc h.size o).grown hg (by have := h.size; simp; omega) hv

set_option maxRecDepth 100000 in
set_option maxHeartbeats 400000 in
theorem joins_walk (A₁ : Option Addr) (l₁ c₁ : Nat) (bs₁ : List UInt8) (A₂ : Option Addr) (l₂ c₂ : Nat) (bs₂ : List UInt8) (w : World) (hl₁ : bs₁.length = l₁) (hm₁ : l₁ ≤ 9223372036854775807) (hl₂ : bs₂.length = l₂) (hm₂ : l₂ ≤ 9223372036854775807)
    (hb₁ : Bytes w w.heap.size A₁ bs₁) (hb₂ : Bytes w w.heap.size A₂ bs₂) :
    Calls Try.prog 6 #[.slice A₁ l₁ c₁, .slice A₂ l₂ c₂] w fun e w' => e = .returned (.bool true) ∧ Below w.heap.size w w' := by
  by_cases hbig : 3000 < l₁ ∨ 3000 < l₂
  · by_cases h1 : 3000 < l₁
    · have hbi : (3000 : Int) < (l₁ : Int) := by omega
      clear hb₁ hb₂ hl₁ hl₂ hbig
      go_enter Try.func6, Try.ntmps6
      go_wp2_with (go_at_call 13; refine (lives_any _).mono ?_; rintro e w4 ⟨rfl, hb4⟩; have HB4 := Lib.hid hb4; clear hb4)
      go_ret
      exact ⟨rfl, HB4.out⟩
    · have hbi : ¬ (3000 : Int) < (l₁ : Int) := by omega
      have hbi2 : (3000 : Int) < (l₂ : Int) := by omega
      clear hb₁ hb₂ hl₁ hl₂ hbig
      go_enter Try.func6, Try.ntmps6
      go_wp2_with (go_at_call 13; refine (lives_any _).mono ?_; rintro e w4 ⟨rfl, hb4⟩; have HB4 := Lib.hid hb4; clear hb4)
      go_ret
      exact ⟨rfl, HB4.out⟩
  have hbi : ¬ (3000 : Int) < (l₁ : Int) := by omega
  have hbi2 : ¬ (3000 : Int) < (l₂ : Int) := by omega
  have hz := (zero_of_info tableInfo).1
  have HSZ := Lib.hid tableSize
  have H1 := Lib.hid hl₁
  have H2 := Lib.hid hl₂
  have HB1 : Hid (Bytes w w.heap.size A₁ bs₁) := hb₁
  have HB2 : Hid (Bytes w w.heap.size A₂ bs₂) := hb₂
  clear hl₁ hl₂ hb₁ hb₂
  obtain ⟨i0, hi, hz0, hz1, hz2⟩ := info_parts byteInfo
  have HI : Hid (Try.prog.info? 5 = some i0 ∧ i0.zero = some (.int .u8 0) ∧ i0.size = 1 ∧ i0.bytes = 1) := ⟨hi, hz0, hz1, hz2⟩
  clear hi hz0 hz1 hz2
  go_enter Try.func6, Try.ntmps6
  go_wp2_with fail
  refine (make_any _).mono ?_
  rintro e w1 ⟨rfl, hb⟩
  have HG := Lib.hid (heap_alloc_last w1 (.cells (Array.replicate 256 (.int .u32 0)) 25))
  have HB := Lib.hid hb
  clear hb
  go_wp2_with (refine wpList_store_row rfl 25 _ _ rfl w1.heap.size tabCells rfl rfl 25 _ HG.out HSZ.out (by rw [Array.size_replicate, tabCells_size]) tabCells_one ?_; rw [World.setRow_alloc_new])
  have HTB := Lib.hid (table_new w1)
  have HBL := Lib.hid (HB.out.alloc HB.out.size (.cells tabCells 25))
  have hsz : w1.heap.size < (w1.alloc (.cells tabCells 25)).heap.size := by simp
  generalize hw2 : w1.alloc (.cells tabCells 25) = w2 at *
  clear hz hw2 HG HSZ HB
  generalize w1.heap.size = g at *
  have HB1' := Lib.hid (HB1.out.below HBL.out (Nat.le_refl _))
  have HB2' := Lib.hid (HB2.out.below HBL.out (Nat.le_refl _))
  clear HB1 HB2
  refine (join_any g _ _ _ bs₁ _ _ _ bs₂ _ _ H1.out hm₁ H2.out hm₂ HTB.out HB1'.out HB2'.out).mono ?_
  rintro e w' ⟨rfl, rfl⟩
  have HS12 : Hid (∃ d, sumN (bs₁ ++ bs₂) = d ∧ d < 4294967296) := ⟨_, rfl, sumN_lt _⟩
  obtain ⟨d, hd, hd32⟩ := HS12.out
  rw [hd]
  have HD := Lib.hid hd
  clear hd HS12
  have HOWN := Lib.hid (own_empty w2 5 (Nat.le_refl _))
  go_wp2_with (first
    | (at_builtin; refine wpList_append_cells _ rfl (.tmp 21) (.tmp 22) 22 rfl w2.heap.size 5 i0 (.int .u8 0) 1 Try.underlying22 HI.out.1 HI.out.2.1 HI.out.2.2.1 HI.out.2.2.2 rfl (.slice (some ⟨w2.heap.size, 0, none⟩) 0 0) 0 [] rfl HOWN.out _ A₁ l₁ c₁ (byteCells bs₁) rfl (by rw [byteCells_length, H1.out]) (HB1'.out.alloc HBL.out.size _) (byteCells_one _) (by unfold maxLen; omega) (by omega) (by simp) ?_; intro A' c' w3 hown hgrow hat; simp only [Nat.zero_add, List.nil_append] at hown ⊢; have HOWN3 := Lib.hid hown; have HGR3 := Lib.hid hgrow; clear hown hgrow hat; go_must (skip; have HBL3 := Lib.hid (HBL.out.trans ((below_of_row (Below.refl _ _) HGR3.out).mono HBL.out.size)); have HB2'' := Lib.hid (HB2'.out.below (below_of_row (Below.refl _ _) HGR3.out) HBL.out.size); have HTB3 := Lib.hid (HTB.out.below (below_of_row (Below.refl _ _) HGR3.out) hsz); have hsz3 := HGR3.out.size))
    | (at_builtin; refine wpList_append_cells _ rfl (.tmp 23) (.tmp 24) 22 rfl w2.heap.size 5 i0 (.int .u8 0) 1 Try.underlying22 HI.out.1 HI.out.2.1 HI.out.2.2.1 HI.out.2.2.2 rfl (.slice A' l₁ c') l₁ (byteCells bs₁) rfl HOWN3.out _ A₂ l₂ c₂ (byteCells bs₂) rfl (by rw [byteCells_length, H2.out]) HB2''.out (byteCells_one _) (by unfold maxLen; omega) (by omega) (by simp at hsz3; omega) ?_; intro A'' c'' w4 hown hgrow hat; rw [← byteCells_append] at hown; have HOWN4 := Lib.hid hown; have HGR4 := Lib.hid hgrow; clear hown hgrow hat))
  have hwsz := HBL.out.size
  have hs32 : w2.heap.size ≤ w3.heap.size := by simp at hsz3; omega
  have hb34 : Below w2.heap.size w3 w4 := (Below.refl _ _).grown HGR4.out hs32 (fun k hk => (HOWN3.out.lt k hk).1)
  have HBL4 := Lib.hid (HBL3.out.trans (hb34.mono hwsz))
  have HTB4 := Lib.hid (HTB3.out.below hb34 hsz)
  have HB14 := Lib.hid ((HB1'.out.below (below_of_row (Below.refl _ _) HGR3.out) hwsz).below hb34 hwsz)
  have HB24 := Lib.hid (HB2''.out.below hb34 hwsz)
  clear hsz3 HB1' HB2' HB2'' HTB HTB3 HGR3 HOWN HBL HBL3 HI
  refine (sum_any g _ _ _ (bs₁ ++ bs₂) _ _ (by rw [List.length_append, H1.out, H2.out]) (by omega) HTB4.out (Cells.of_own HOWN4.out)).mono ?_
  rintro e w' ⟨rfl, rfl⟩
  rw [HD.out]
  go_wp2_with fail
  refine (sum_any g _ _ _ bs₁ _ _ H1.out hm₁ HTB4.out HB14.out).mono ?_
  rintro e w' ⟨rfl, rfl⟩
  have h1lt := sumN_lt bs₁
  have hx1 : bits .xor .u32 IntKind.u32.max (sumN bs₁ : Int) = (goN 4294967295 bs₁ : Int) := by
    rw [max_xor h1lt]
    show ((goN 4294967295 bs₁ ^^^ 4294967295 ^^^ 4294967295 : Nat) : Int) = _
    rw [Nat.xor_assoc, Nat.xor_self, Nat.xor_zero]
  have hk1 : goN 4294967295 bs₁ < 4294967296 := goN_lt bs₁ (by omega)
  have HS := Lib.hid (goN_sum bs₁ bs₂)
  generalize sumN bs₁ = s1 at *
  generalize goN 4294967295 bs₁ = k1 at *
  go_wp2_with fail
  refine (go_any g _ _ _ _ bs₂ _ _ (by omega) (by omega) H2.out hm₂ HTB4.out HB24.out).mono ?_
  rintro e w' ⟨rfl, rfl⟩
  rw [Int.toNat_natCast]
  have hk2 : goN k1 bs₂ < 4294967296 := goN_lt bs₂ hk1
  have hx2 : bits .xor .u32 IntKind.u32.max (goN k1 bs₂ : Int) = (d : Int) := by
    rw [max_xor hk2, HS.out, HD.out]
  generalize goN k1 bs₂ = k2 at *
  go_wp2_with fail
  refine (lives_any _).mono ?_
  rintro e w5 ⟨rfl, hb5⟩
  have HB5 := Lib.hid (HBL4.out.trans (hb5.mono HBL4.out.size))
  clear hb5
  go_wp2
  go_ret
  exact ⟨rfl, HB5.out⟩
end Go.Proofs.Ytacfigopfgmdfaa
