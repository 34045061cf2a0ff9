/- Layer 12: the law SymbolClasses. -/
import Derived.Test.YtgokhpljmoojnaaSymLaw
import Derived.Test.YtgokhpljmoojnaaQuietF
namespace Go.Proofs.Ytgokhpljmoojnaa
open Go.RowKit SymP
attribute [local go_sem ↓] Go.wp_at_zero Go.wp_at_succ

theorem cell_al {w : World} {p : Addr} {u : Value} (h : w.cell? p = some u) (hp : p.block < w.heap.size) (o : Obj) : (w.alloc o).cell? p = some u := by
  rw [← h]
  exact World.cell?_of_block (Below.heap_alloc w o p.block hp)
/-- The cells of three in a row, in every world that only draws and makes a block behind. -/
theorem cells3_all {w : World} {g : Nat} {a b c : Value} (h : w.cell? ⟨g, 0, none⟩ = some a ∧ w.cell? ⟨g, 1, none⟩ = some b ∧ w.cell? ⟨g, 2, none⟩ = some c) (hg : g < w.heap.size) :
    ((∀ o, (w.drew.alloc o).cell? ⟨g, 0, none⟩ = some a) ∧ (∀ o, (w.drew.alloc o).cell? ⟨g, 1, none⟩ = some b) ∧ (∀ o, (w.drew.alloc o).cell? ⟨g, 2, none⟩ = some c)) ∧
    (∀ o, (w.alloc o).cell? ⟨g, 0, none⟩ = some a) ∧ (∀ o, (w.alloc o).cell? ⟨g, 1, none⟩ = some b) ∧ (∀ o, (w.alloc o).cell? ⟨g, 2, none⟩ = some c) :=
  ⟨⟨fun o => cell_al (w := w.drew) h.1 hg o, fun o => cell_al (w := w.drew) h.2.1 hg o, fun o => cell_al (w := w.drew) h.2.2 hg o⟩, fun o => cell_al h.1 hg o, fun o => cell_al h.2.1 hg o, fun o => cell_al h.2.2 hg o⟩
theorem cells3_after {w w' : World} {g : Nat} {a b c : Value} (hb : Below w.heap.size w w') (h : w.cell? ⟨g, 0, none⟩ = some a ∧ w.cell? ⟨g, 1, none⟩ = some b ∧ w.cell? ⟨g, 2, none⟩ = some c) (hg : g < w.heap.size) :
    w'.cell? ⟨g, 0, none⟩ = some a ∧ w'.cell? ⟨g, 1, none⟩ = some b ∧ w'.cell? ⟨g, 2, none⟩ = some c :=
  ⟨(hb.cell (p := ⟨g, 0, none⟩) hg).trans h.1, (hb.cell (p := ⟨g, 1, none⟩) hg).trans h.2.1, (hb.cell (p := ⟨g, 2, none⟩) hg).trans h.2.2⟩

set_option maxRecDepth 100000 in
set_option maxHeartbeats 2000000 in
theorem cls_in_in (v : Nat) (n : Nat) (b : Int) (x : Nat) (w : World) (hv : v < 32768) (hn : n < 30) (hx : x < 4294967296) :
    Calls Try.prog 3 #[.int .i64 v, .agg #[.int .i64 n, .int .i64 b, .int .u32 x]] w fun e w' => e = .returned (.bool true) ∧ Below w.heap.size w w' := by
  have HO := Lib.hid (fun W => of_inx v W hv)
  have HR := Lib.hid (fun W => of12_any v W hv)
  generalize classC v = a1 at *
  generalize bitsC a1 = a2 at *
  generalize v % 2 ^ a2 = a3 at *
  have hv0 : ¬ ((v : Int) < 0) := by omega
  have hv1 : (0 : Int) ≤ v := by omega
  have hv2 : (v : Int) < 32768 := by omega
  have HB := Lib.hid (fun W => base_in n W hn)
  have HS := Lib.hid (fun W => base12_any n W hn)
  have HC := Lib.hid (fun W => bits12_any n W hn)
  generalize baseC n = y at *
  generalize bitsC n = yb at *
  have hn1 : (0 : Int) ≤ n := by omega
  have hn2 : (n : Int) < 30 := by omega
  have HV := Lib.hid (fun W => value_all n b x W hx)
  have HW := Lib.hid (fun W => rvalue_all n b x W hx)
  generalize vN n b x = p at *
  generalize (valC n b x).isSome = o at *
  unfold agC at *
  skip
  all_goals go_enter Try.func3, Try.ntmps3
  all_goals go_wp2_with (first
    | (go_at_call 7; refine (HO.out _).mono ?_; rintro e w4 ⟨rfl, rfl | rfl⟩)
    | (go_at_call 8; refine (HB.out _).mono ?_; rintro e w' ⟨rfl, rfl⟩)
    | (go_at_call 9; refine (HV.out _).mono ?_; rintro e w6 ⟨rfl, hb6⟩; have h0 : w6.cell? ⟨w.heap.size, 0, none⟩ = some (.int .i64 n) ∧ w6.cell? ⟨w.heap.size, 1, none⟩ = some (.int .i64 b) ∧ w6.cell? ⟨w.heap.size, 2, none⟩ = some (.int .u32 x) := (by refine ⟨?_, ?_, ?_⟩ <;> rw [hb6.cell (by simp <;> omega)] <;> go_simp); have h2 : w6.cell? ⟨w.heap.size + 1 + 1, 0, none⟩ = some (.int .i64 a1) ∧ w6.cell? ⟨w.heap.size + 1 + 1, 1, none⟩ = some (.int .i64 a2) ∧ w6.cell? ⟨w.heap.size + 1 + 1, 2, none⟩ = some (.int .u32 a3) := (by refine ⟨?_, ?_, ?_⟩ <;> rw [hb6.cell (by simp <;> omega)] <;> go_simp); have R0 := Lib.hid h0; have R2 := Lib.hid h2; obtain ⟨s0, s1, s2⟩ := h0; have HB6 := Lib.hid (Below.trans (show Below w.heap.size w _ from (by repeat (first | exact Below.refl _ _ | refine Below.drew ?_ | refine Below.alloc ?_ (by simp <;> omega) _))) (hb6.mono (by simp <;> omega))); have HS6 := Lib.hid (show w.heap.size + 3 ≤ w6.heap.size by have := hb6.size; simp at this; omega); clear hb6 h2)
    | (go_at_call 10; refine (HW.out _).mono ?_; rintro e w7 ⟨rfl, hb7⟩; clear s0 s1 s2; have z0 := cells3_after hb7 R0.out (by have := HS6.out; omega); have z2 := cells3_after hb7 R2.out (by have := HS6.out; omega); obtain ⟨s0, s1, s2⟩ := z0; obtain ⟨r0, r1, r2⟩ := z2; have HB7 := Lib.hid (HB6.out.trans (hb7.mono (by have := HS6.out; omega))); have HS7 := Lib.hid (show w.heap.size + 3 ≤ w7.heap.size by have := hb7.size; have := HS6.out; omega); clear hb7)
    )
  all_goals
    obtain ⟨ι, f, n0, hf0, hfb, hfu⟩ := below_class w7
    haveI hne : Nonempty ι := ⟨n0⟩
    have HFB := Lib.hid hfb
    have HFU := Lib.hid hfu
    have s9 : ∀ q, (f q).cell? ⟨w.heap.size, 0, none⟩ = some (.int .i64 n) := fun q => ((hfb q).cell (p := ⟨w.heap.size, 0, none⟩) (by have := HS7.out; simp only; omega)).trans s0
    have r9 : ∀ q, (f q).cell? ⟨w.heap.size + 1 + 1, 0, none⟩ = some (.int .i64 a1) := fun q => ((hfb q).cell (p := ⟨w.heap.size + 1 + 1, 0, none⟩) (by have := HS7.out; simp only; omega)).trans r0
    have r10 : ∀ q, (f q).cell? ⟨w.heap.size + 1 + 1, 1, none⟩ = some (.int .i64 a2) := fun q => ((hfb q).cell (p := ⟨w.heap.size + 1 + 1, 1, none⟩) (by have := HS7.out; simp only; omega)).trans r1
    have r11 : ∀ q, (f q).cell? ⟨w.heap.size + 1 + 1, 2, none⟩ = some (.int .u32 a3) := fun q => ((hfb q).cell (p := ⟨w.heap.size + 1 + 1, 2, none⟩) (by have := HS7.out; simp only; omega)).trans r2
    clear hfb hfu s0 s1 s2 r0 r1 r2
    refine region_quiet_f f n0 hf0 (by kernel_rfl) (by kernel_rfl) ?_
    repeat (go_big_quiet_step ((go_at_call 11; exact quiet_f HFU.out ((HR.out _).mono (by rintro e w' ⟨rfl, rfl⟩; exact ⟨rfl, (Below.refl _ _).alloc (Nat.le_refl _) _⟩)))))
    refine wpQuiet_nil ?_
    rintro _ ⟨nq, rfl⟩
    have HBQ := Lib.hid (HB7.out.trans ((HFB.out nq).mono (by have := HS7.out; omega)))
    have s12 := s9 nq
    generalize f nq = w8 at *
    clear s9 r9 r10 r11 HFB HFU hf0 hne
  all_goals (try go_wp2_with (first
    | (go_at_call 13; refine (HS.out _).mono ?_; rintro e w' ⟨rfl, rfl⟩)
    | (go_at_call 14; refine (HC.out _).mono ?_; rintro e w' ⟨rfl, rfl⟩)
    | (go_at_call 12; refine (lives12_any _).mono ?_; rintro e w9 ⟨rfl, hb9⟩; have HB9 := Lib.hid (HBQ.out.trans (hb9.mono HBQ.out.size)); clear hb9)))
  all_goals go_ret
  all_goals exact ⟨rfl, HB9.out⟩

set_option maxRecDepth 100000 in
set_option maxHeartbeats 2000000 in
theorem cls_in_out (v : Nat) (n : Int) (b : Int) (x : Nat) (w : World) (hv : v < 32768) (hn : n < 0 ∨ 30 ≤ n) (hx : x < 4294967296) :
    Calls Try.prog 3 #[.int .i64 v, .agg #[.int .i64 n, .int .i64 b, .int .u32 x]] w fun e w' => e = .returned (.bool true) ∧ Below w.heap.size w w' := by
  have HO := Lib.hid (fun W => of_inx v W hv)
  have HR := Lib.hid (fun W => of12_any v W hv)
  generalize classC v = a1 at *
  generalize bitsC a1 = a2 at *
  generalize v % 2 ^ a2 = a3 at *
  have hv0 : ¬ ((v : Int) < 0) := by omega
  have hv1 : (0 : Int) ≤ v := by omega
  have hv2 : (v : Int) < 32768 := by omega
  have HB := Lib.hid (fun W => base_out n W hn)
  have HV := Lib.hid (fun W => value_all n b x W hx)
  have HW := Lib.hid (fun W => rvalue_all n b x W hx)
  generalize vN n b x = p at *
  generalize (valC n b x).isSome = o at *
  unfold agC at *
  rcases hn with hn | hn
  all_goals first
    | (have hn3 : decide ((0 : Int) ≤ n) = true := (by simp; omega); have hn4 : decide (n < 30) = false := (by simp; omega); clear hn)
    | (have hn3 : decide ((0 : Int) ≤ n) = false := (by simp; omega); clear hn)
  all_goals go_enter Try.func3, Try.ntmps3
  all_goals go_wp2_with (first
    | (go_at_call 7; refine (HO.out _).mono ?_; rintro e w4 ⟨rfl, rfl | rfl⟩)
    | (go_at_call 8; refine (HB.out _).mono ?_; rintro e w' ⟨rfl, rfl⟩)
    | (go_at_call 9; refine (HV.out _).mono ?_; rintro e w6 ⟨rfl, hb6⟩; have h0 : w6.cell? ⟨w.heap.size, 0, none⟩ = some (.int .i64 n) ∧ w6.cell? ⟨w.heap.size, 1, none⟩ = some (.int .i64 b) ∧ w6.cell? ⟨w.heap.size, 2, none⟩ = some (.int .u32 x) := (by refine ⟨?_, ?_, ?_⟩ <;> rw [hb6.cell (by simp <;> omega)] <;> go_simp); have h2 : w6.cell? ⟨w.heap.size + 1 + 1, 0, none⟩ = some (.int .i64 a1) ∧ w6.cell? ⟨w.heap.size + 1 + 1, 1, none⟩ = some (.int .i64 a2) ∧ w6.cell? ⟨w.heap.size + 1 + 1, 2, none⟩ = some (.int .u32 a3) := (by refine ⟨?_, ?_, ?_⟩ <;> rw [hb6.cell (by simp <;> omega)] <;> go_simp); have R0 := Lib.hid h0; have R2 := Lib.hid h2; obtain ⟨s0, s1, s2⟩ := h0; have HB6 := Lib.hid (Below.trans (show Below w.heap.size w _ from (by repeat (first | exact Below.refl _ _ | refine Below.drew ?_ | refine Below.alloc ?_ (by simp <;> omega) _))) (hb6.mono (by simp <;> omega))); have HS6 := Lib.hid (show w.heap.size + 3 ≤ w6.heap.size by have := hb6.size; simp at this; omega); clear hb6 h2)
    | (go_at_call 10; refine (HW.out _).mono ?_; rintro e w7 ⟨rfl, hb7⟩; clear s0 s1 s2; have z0 := cells3_after hb7 R0.out (by have := HS6.out; omega); have z2 := cells3_after hb7 R2.out (by have := HS6.out; omega); obtain ⟨s0, s1, s2⟩ := z0; obtain ⟨r0, r1, r2⟩ := z2; have HB7 := Lib.hid (HB6.out.trans (hb7.mono (by have := HS6.out; omega))); have HS7 := Lib.hid (show w.heap.size + 3 ≤ w7.heap.size by have := hb7.size; have := HS6.out; omega); clear hb7)
    )
  all_goals
    obtain ⟨ι, f, n0, hf0, hfb, hfu⟩ := below_class w7
    haveI hne : Nonempty ι := ⟨n0⟩
    have HFB := Lib.hid hfb
    have HFU := Lib.hid hfu
    have s9 : ∀ q, (f q).cell? ⟨w.heap.size, 0, none⟩ = some (.int .i64 n) := fun q => ((hfb q).cell (p := ⟨w.heap.size, 0, none⟩) (by have := HS7.out; simp only; omega)).trans s0
    have r9 : ∀ q, (f q).cell? ⟨w.heap.size + 1 + 1, 0, none⟩ = some (.int .i64 a1) := fun q => ((hfb q).cell (p := ⟨w.heap.size + 1 + 1, 0, none⟩) (by have := HS7.out; simp only; omega)).trans r0
    have r10 : ∀ q, (f q).cell? ⟨w.heap.size + 1 + 1, 1, none⟩ = some (.int .i64 a2) := fun q => ((hfb q).cell (p := ⟨w.heap.size + 1 + 1, 1, none⟩) (by have := HS7.out; simp only; omega)).trans r1
    have r11 : ∀ q, (f q).cell? ⟨w.heap.size + 1 + 1, 2, none⟩ = some (.int .u32 a3) := fun q => ((hfb q).cell (p := ⟨w.heap.size + 1 + 1, 2, none⟩) (by have := HS7.out; simp only; omega)).trans r2
    clear hfb hfu s0 s1 s2 r0 r1 r2
    refine region_quiet_f f n0 hf0 (by kernel_rfl) (by kernel_rfl) ?_
    repeat (go_big_quiet_step ((go_at_call 11; exact quiet_f HFU.out ((HR.out _).mono (by rintro e w' ⟨rfl, rfl⟩; exact ⟨rfl, (Below.refl _ _).alloc (Nat.le_refl _) _⟩)))))
    refine wpQuiet_nil ?_
    rintro _ ⟨nq, rfl⟩
    have HBQ := Lib.hid (HB7.out.trans ((HFB.out nq).mono (by have := HS7.out; omega)))
    have s12 := s9 nq
    generalize f nq = w8 at *
    clear s9 r9 r10 r11 HFB HFU hf0 hne
  all_goals (try go_wp2_with (first
    | (go_at_call 12; refine (lives12_any _).mono ?_; rintro e w9 ⟨rfl, hb9⟩; have HB9 := Lib.hid (HBQ.out.trans (hb9.mono HBQ.out.size)); clear hb9)))
  all_goals go_ret
  all_goals exact ⟨rfl, HB9.out⟩

set_option maxRecDepth 100000 in
set_option maxHeartbeats 2000000 in
theorem cls_out_in (v : Int) (n : Nat) (b : Int) (x : Nat) (w : World) (hv : v < 0 ∨ 32768 ≤ v) (hn : n < 30) (hx : x < 4294967296) :
    Calls Try.prog 3 #[.int .i64 v, .agg #[.int .i64 n, .int .i64 b, .int .u32 x]] w fun e w' => e = .returned (.bool true) ∧ Below w.heap.size w w' := by
  have HO := Lib.hid (fun W => of_outx v W hv)
  have HB := Lib.hid (fun W => base_in n W hn)
  have HS := Lib.hid (fun W => base12_any n W hn)
  have HC := Lib.hid (fun W => bits12_any n W hn)
  generalize baseC n = y at *
  generalize bitsC n = yb at *
  have hn1 : (0 : Int) ≤ n := by omega
  have hn2 : (n : Int) < 30 := by omega
  have HV := Lib.hid (fun W => value_all n b x W hx)
  have HW := Lib.hid (fun W => rvalue_all n b x W hx)
  generalize vN n b x = p at *
  generalize (valC n b x).isSome = o at *
  unfold agC at *
  rcases hv with hv | hv
  all_goals go_enter Try.func3, Try.ntmps3
  all_goals go_wp2_with (first
    | (go_at_call 7; refine (HO.out _).mono ?_; rintro e w4 ⟨rfl, rfl⟩)
    | (go_at_call 8; refine (HB.out _).mono ?_; rintro e w' ⟨rfl, rfl⟩)
    | (go_at_call 9; refine (HV.out _).mono ?_; rintro e w6 ⟨rfl, hb6⟩; have h0 : w6.cell? ⟨w.heap.size, 0, none⟩ = some (.int .i64 n) ∧ w6.cell? ⟨w.heap.size, 1, none⟩ = some (.int .i64 b) ∧ w6.cell? ⟨w.heap.size, 2, none⟩ = some (.int .u32 x) := (by refine ⟨?_, ?_, ?_⟩ <;> rw [hb6.cell (by simp <;> omega)] <;> go_simp); have h2 : w6.cell? ⟨w.heap.size + 1 + 1, 0, none⟩ = some (.int .i64 0) ∧ w6.cell? ⟨w.heap.size + 1 + 1, 1, none⟩ = some (.int .i64 0) ∧ w6.cell? ⟨w.heap.size + 1 + 1, 2, none⟩ = some (.int .u32 0) := (by refine ⟨?_, ?_, ?_⟩ <;> rw [hb6.cell (by simp <;> omega)] <;> go_simp); have R0 := Lib.hid h0; have R2 := Lib.hid h2; obtain ⟨s0, s1, s2⟩ := h0; have HB6 := Lib.hid (Below.trans (show Below w.heap.size w _ from (by repeat (first | exact Below.refl _ _ | refine Below.drew ?_ | refine Below.alloc ?_ (by simp <;> omega) _))) (hb6.mono (by simp <;> omega))); have HS6 := Lib.hid (show w.heap.size + 3 ≤ w6.heap.size by have := hb6.size; simp at this; omega); clear hb6 h2)
    | (go_at_call 10; refine (HW.out _).mono ?_; rintro e w7 ⟨rfl, hb7⟩; clear s0 s1 s2; have z0 := cells3_after hb7 R0.out (by have := HS6.out; omega); have z2 := cells3_after hb7 R2.out (by have := HS6.out; omega); obtain ⟨s0, s1, s2⟩ := z0; obtain ⟨r0, r1, r2⟩ := z2; have HB7 := Lib.hid (HB6.out.trans (hb7.mono (by have := HS6.out; omega))); have HS7 := Lib.hid (show w.heap.size + 3 ≤ w7.heap.size by have := hb7.size; have := HS6.out; omega); clear hb7)
    )
  all_goals
    obtain ⟨ι, f, n0, hf0, hfb, hfu⟩ := below_class w7
    haveI hne : Nonempty ι := ⟨n0⟩
    have HFB := Lib.hid hfb
    have HFU := Lib.hid hfu
    have s9 : ∀ q, (f q).cell? ⟨w.heap.size, 0, none⟩ = some (.int .i64 n) := fun q => ((hfb q).cell (p := ⟨w.heap.size, 0, none⟩) (by have := HS7.out; simp only; omega)).trans s0
    have r9 : ∀ q, (f q).cell? ⟨w.heap.size + 1 + 1, 0, none⟩ = some (.int .i64 0) := fun q => ((hfb q).cell (p := ⟨w.heap.size + 1 + 1, 0, none⟩) (by have := HS7.out; simp only; omega)).trans r0
    have r10 : ∀ q, (f q).cell? ⟨w.heap.size + 1 + 1, 1, none⟩ = some (.int .i64 0) := fun q => ((hfb q).cell (p := ⟨w.heap.size + 1 + 1, 1, none⟩) (by have := HS7.out; simp only; omega)).trans r1
    have r11 : ∀ q, (f q).cell? ⟨w.heap.size + 1 + 1, 2, none⟩ = some (.int .u32 0) := fun q => ((hfb q).cell (p := ⟨w.heap.size + 1 + 1, 2, none⟩) (by have := HS7.out; simp only; omega)).trans r2
    clear hfb hfu s0 s1 s2 r0 r1 r2
    refine region_quiet_f f n0 hf0 (by kernel_rfl) (by kernel_rfl) ?_
    repeat (go_big_quiet_step (fail))
    refine wpQuiet_nil ?_
    rintro _ ⟨nq, rfl⟩
    have HBQ := Lib.hid (HB7.out.trans ((HFB.out nq).mono (by have := HS7.out; omega)))
    have s12 := s9 nq
    generalize f nq = w8 at *
    clear s9 r9 r10 r11 HFB HFU hf0 hne
  all_goals (try go_wp2_with (first
    | (go_at_call 13; refine (HS.out _).mono ?_; rintro e w' ⟨rfl, rfl⟩)
    | (go_at_call 14; refine (HC.out _).mono ?_; rintro e w' ⟨rfl, rfl⟩)
    | (go_at_call 12; refine (lives12_any _).mono ?_; rintro e w9 ⟨rfl, hb9⟩; have HB9 := Lib.hid (HBQ.out.trans (hb9.mono HBQ.out.size)); clear hb9)))
  all_goals go_ret
  all_goals exact ⟨rfl, HB9.out⟩

set_option maxRecDepth 100000 in
set_option maxHeartbeats 2000000 in
theorem cls_out_out (v : Int) (n : Int) (b : Int) (x : Nat) (w : World) (hv : v < 0 ∨ 32768 ≤ v) (hn : n < 0 ∨ 30 ≤ n) (hx : x < 4294967296) :
    Calls Try.prog 3 #[.int .i64 v, .agg #[.int .i64 n, .int .i64 b, .int .u32 x]] w fun e w' => e = .returned (.bool true) ∧ Below w.heap.size w w' := by
  have HO := Lib.hid (fun W => of_outx v W hv)
  have HB := Lib.hid (fun W => base_out n W hn)
  have HV := Lib.hid (fun W => value_all n b x W hx)
  have HW := Lib.hid (fun W => rvalue_all n b x W hx)
  generalize vN n b x = p at *
  generalize (valC n b x).isSome = o at *
  unfold agC at *
  rcases hv with hv | hv <;> rcases hn with hn | hn
  all_goals first
    | (have hn3 : decide ((0 : Int) ≤ n) = true := (by simp; omega); have hn4 : decide (n < 30) = false := (by simp; omega); clear hn)
    | (have hn3 : decide ((0 : Int) ≤ n) = false := (by simp; omega); clear hn)
  all_goals go_enter Try.func3, Try.ntmps3
  all_goals go_wp2_with (first
    | (go_at_call 7; refine (HO.out _).mono ?_; rintro e w4 ⟨rfl, rfl⟩)
    | (go_at_call 8; refine (HB.out _).mono ?_; rintro e w' ⟨rfl, rfl⟩)
    | (go_at_call 9; refine (HV.out _).mono ?_; rintro e w6 ⟨rfl, hb6⟩; have h0 : w6.cell? ⟨w.heap.size, 0, none⟩ = some (.int .i64 n) ∧ w6.cell? ⟨w.heap.size, 1, none⟩ = some (.int .i64 b) ∧ w6.cell? ⟨w.heap.size, 2, none⟩ = some (.int .u32 x) := (by refine ⟨?_, ?_, ?_⟩ <;> rw [hb6.cell (by simp <;> omega)] <;> go_simp); have h2 : w6.cell? ⟨w.heap.size + 1 + 1, 0, none⟩ = some (.int .i64 0) ∧ w6.cell? ⟨w.heap.size + 1 + 1, 1, none⟩ = some (.int .i64 0) ∧ w6.cell? ⟨w.heap.size + 1 + 1, 2, none⟩ = some (.int .u32 0) := (by refine ⟨?_, ?_, ?_⟩ <;> rw [hb6.cell (by simp <;> omega)] <;> go_simp); have R0 := Lib.hid h0; have R2 := Lib.hid h2; obtain ⟨s0, s1, s2⟩ := h0; have HB6 := Lib.hid (Below.trans (show Below w.heap.size w _ from (by repeat (first | exact Below.refl _ _ | refine Below.drew ?_ | refine Below.alloc ?_ (by simp <;> omega) _))) (hb6.mono (by simp <;> omega))); have HS6 := Lib.hid (show w.heap.size + 3 ≤ w6.heap.size by have := hb6.size; simp at this; omega); clear hb6 h2)
    | (go_at_call 10; refine (HW.out _).mono ?_; rintro e w7 ⟨rfl, hb7⟩; clear s0 s1 s2; have z0 := cells3_after hb7 R0.out (by have := HS6.out; omega); have z2 := cells3_after hb7 R2.out (by have := HS6.out; omega); obtain ⟨s0, s1, s2⟩ := z0; obtain ⟨r0, r1, r2⟩ := z2; have HB7 := Lib.hid (HB6.out.trans (hb7.mono (by have := HS6.out; omega))); have HS7 := Lib.hid (show w.heap.size + 3 ≤ w7.heap.size by have := hb7.size; have := HS6.out; omega); clear hb7)
    )
  all_goals
    obtain ⟨ι, f, n0, hf0, hfb, hfu⟩ := below_class w7
    haveI hne : Nonempty ι := ⟨n0⟩
    have HFB := Lib.hid hfb
    have HFU := Lib.hid hfu
    have s9 : ∀ q, (f q).cell? ⟨w.heap.size, 0, none⟩ = some (.int .i64 n) := fun q => ((hfb q).cell (p := ⟨w.heap.size, 0, none⟩) (by have := HS7.out; simp only; omega)).trans s0
    have r9 : ∀ q, (f q).cell? ⟨w.heap.size + 1 + 1, 0, none⟩ = some (.int .i64 0) := fun q => ((hfb q).cell (p := ⟨w.heap.size + 1 + 1, 0, none⟩) (by have := HS7.out; simp only; omega)).trans r0
    have r10 : ∀ q, (f q).cell? ⟨w.heap.size + 1 + 1, 1, none⟩ = some (.int .i64 0) := fun q => ((hfb q).cell (p := ⟨w.heap.size + 1 + 1, 1, none⟩) (by have := HS7.out; simp only; omega)).trans r1
    have r11 : ∀ q, (f q).cell? ⟨w.heap.size + 1 + 1, 2, none⟩ = some (.int .u32 0) := fun q => ((hfb q).cell (p := ⟨w.heap.size + 1 + 1, 2, none⟩) (by have := HS7.out; simp only; omega)).trans r2
    clear hfb hfu s0 s1 s2 r0 r1 r2
    refine region_quiet_f f n0 hf0 (by kernel_rfl) (by kernel_rfl) ?_
    repeat (go_big_quiet_step (fail))
    refine wpQuiet_nil ?_
    rintro _ ⟨nq, rfl⟩
    have HBQ := Lib.hid (HB7.out.trans ((HFB.out nq).mono (by have := HS7.out; omega)))
    have s12 := s9 nq
    generalize f nq = w8 at *
    clear s9 r9 r10 r11 HFB HFU hf0 hne
  all_goals (try go_wp2_with (first
    | (go_at_call 12; refine (lives12_any _).mono ?_; rintro e w9 ⟨rfl, hb9⟩; have HB9 := Lib.hid (HBQ.out.trans (hb9.mono HBQ.out.size)); clear hb9)))
  all_goals go_ret
  all_goals exact ⟨rfl, HB9.out⟩

theorem classes_any (v n b x : Int) (w : World) (hx0 : 0 ≤ x) (hx : x < 4294967296) :
    Calls Try.prog 3 #[.int .i64 v, .agg #[.int .i64 n, .int .i64 b, .int .u32 x]] w fun e w' => e = .returned (.bool true) ∧ Below w.heap.size w w' := by
  obtain ⟨X, rfl⟩ := Int.eq_ofNat_of_zero_le hx0
  by_cases hv : v < 0 ∨ 32768 ≤ v <;> by_cases hn : n < 0 ∨ 30 ≤ n
  · exact cls_out_out v n b X w hv hn (by omega)
  · obtain ⟨N, rfl⟩ := Int.eq_ofNat_of_zero_le (show 0 ≤ n by omega)
    exact cls_out_in v N b X w hv (by omega) (by omega)
  · obtain ⟨V, rfl⟩ := Int.eq_ofNat_of_zero_le (show 0 ≤ v by omega)
    exact cls_in_out V n b X w (by omega) hn (by omega)
  · obtain ⟨V, rfl⟩ := Int.eq_ofNat_of_zero_le (show 0 ≤ v by omega)
    obtain ⟨N, rfl⟩ := Int.eq_ofNat_of_zero_le (show 0 ≤ n by omega)
    exact cls_in_in V N b X w (by omega) (by omega) (by omega)
end Go.Proofs.Ytgokhpljmoojnaa
