/- slices.Repeat of one number, as often as one may ask for. -/
import Derived.Test.YtkikgidmioofaaaGreatMgBSMoves
import Derived.Test.YtkikgidmioofaaaGreatMgB16
import Derived.Laws.BitsAllLaws
import Derived.Deep.RegionLaw
namespace Go.Proofs.YtkikgidmioofaaaGreat
open Go.RowKit

theorem ib_own {w : World} {g : Nat} {vs : List Int} (h : IntBlock w g vs) (hm : vs.length ≤ maxLen) : w.ownsRow 0 3 1 (.slice (some ⟨g, 0, none⟩) vs.length vs.length) vs.length (vs.map ic) :=
  own_of_row (cur := vs.map ic) h (Nat.zero_le _) (Nat.le_refl _) hm (by simp) (by rw [List.take_of_length_le (by simp)])
theorem ib_of_own {w : World} {g n : Nat} {vs : List Int} (h : w.ownsRow 0 3 1 (.slice (some ⟨g, 0, none⟩) n n) n (vs.map ic)) : IntBlock w g vs := by
  obtain ⟨cur, hh, _, h2, _, _, _, h6, _⟩ := own_row h
  rw [List.take_of_length_le (by omega)] at h2
  subst h2
  exact hh
theorem splice_ic (vs xs : List Int) (o : Nat) : splice (vs.map ic) o (xs.map ic) = (splice vs o xs).map ic := by
  unfold splice
  simp [List.map_take, List.map_drop]
theorem ic_one (xs : List Int) : ∀ u ∈ xs.map ic, u.oneCell' = true := fun u hu => by
  obtain ⟨z, _, rfl⟩ := List.mem_map.1 hu
  rfl
theorem run_copy_ib (W : World) (g o N : Nat) (vs xs ys : List Int) (hN : vs.length = N) (hm : N ≤ 1000000) (h : IntBlock W g vs) (dl dc : Nat) (sp : Option Addr) (sl sc : Nat) (hx : xs.length = min sl dl) (hr : Cells W W.heap.size sp (ys.map ic)) (hxy : xs = ys.take xs.length) (ho : o + xs.length ≤ N) :
    ∃ W', (Builtin.copy_ #[65, 65] 3 #[.slice (some ⟨g, o, none⟩) dl dc, .slice sp sl sc]).run Tryz.prog W = .ok (goInt xs.length) W' ∧ IntBlock W' g (splice vs o xs) ∧ Mod (oneB g) W W' := by
  have hown := ib_own h (by rw [hN]; unfold maxLen; omega)
  rw [hN] at hown
  obtain ⟨W', h1, h2, h3⟩ := run_copy_into (P := Tryz.prog) W hown 65 65 3 Tryz.underlying65 (by kernel_rfl) (some ⟨g, o, none⟩) sp dl dc sl sc o (xs.map ic) (by rw [List.length_map]; exact hx) (fun _ => ⟨g, rfl, rfl⟩) W.heap.size (ys.map ic) hr (by
    rw [List.length_map, ← List.map_take, ← hxy]) (by rw [List.length_map]; exact ho) (ic_one xs)
  rw [List.length_map] at h1
  rw [splice_ic] at h2
  exact ⟨W', h1, ib_of_own h2, h3.mono fun k hk => (Option.some.inj hk).symm⟩
theorem small_and : ∀ y : Nat, y < 400 → bits .and .u64 (y : Int) 4294967295 = (y : Int) := fun y hy => by
  rw [show (4294967295 : Int) = ((4294967295 : Nat) : Int) from rfl, u64_and_nat _ _ (by omega) (by decide)]
  congr 1
  rw [show 4294967295 = 2 ^ 32 - 1 from rfl, Nat.and_two_pow_sub_one_eq_mod]
  exact Nat.mod_eq_of_lt (by omega)
set_option maxHeartbeats 400000 in
theorem mul64_small (y : Nat) (hy : y < 400) (w : World) : Calls Tryz.prog 175 #[.int .u64 1, .int .u64 (y : Int)] w fun e w' => e = .returned (.tuple #[.int .u64 0, .int .u64 (y : Int)]) ∧ w = w' := by
  have a1 : bits .and .u64 1 4294967295 = 1 := small_and 1 (by omega)
  have a0 : bits .and .u64 0 4294967295 = 0 := small_and 0 (by omega)
  have a2 := small_and y hy
  have d1 : (y : Int) / 4294967296 = 0 := by omega
  go_enter Tryz.func175, Tryz.ntmps175
  go_wp2
  go_ret2
  exact ⟨by simp, rfl⟩
set_option maxHeartbeats 400000 in
theorem mul_small (y : Nat) (hy : y < 400) (w : World) : Calls Tryz.prog 168 #[.int .u64 1, .int .u64 (y : Int)] w fun e w' => e = .returned (.tuple #[.int .u64 0, .int .u64 (y : Int)]) ∧ w = w' := by
  have HM := Lib.hid (mul64_small y hy)
  go_enter Tryz.func168, Tryz.ntmps168
  go_wp2_with (go_at_call 175; refine (HM.out _).mono ?_; rintro e w' ⟨rfl, rfl⟩)
  go_ret2
  exact ⟨rfl, rfl⟩
/-- A row, of which the first ones are laid. -/
def repZ (x : Int) (n k : Nat) : List Int := List.replicate n x ++ List.replicate k 0
theorem repZ_len (x : Int) (n k : Nat) : (repZ x n k).length = n + k := by simp [repZ]
theorem repZ_up (x : Int) (n k j : Nat) : splice (repZ x n k) n (List.replicate j x) = repZ x (n + j) (k - j) := by
  unfold splice repZ
  rw [List.length_replicate, List.take_append_of_le_length (by simp), List.take_of_length_le (by simp), List.drop_append, List.length_replicate, List.drop_of_length_le (by simp), List.nil_append, show n + j - n = j by omega, List.drop_replicate, ← List.append_assoc, List.replicate_append_replicate]
theorem repZ_done (x : Int) (n : Nat) : repZ x n 0 = List.replicate n x := by simp [repZ]
set_option maxRecDepth 100000 in
set_option maxHeartbeats 1000000 in
theorem repeat_any (b o c m : Nat) (x : Int) (w : World) (h1 : 1 ≤ m) (hm : m < 400) (hb : b < w.heap.size) (hc : w.cell? ⟨b, o, none⟩ = some (.int .i64 x)) :
    Calls Tryz.prog 157 #[.slice (some ⟨b, o, none⟩) 1 c, .int .i64 (m : Int)] w fun e w' => e = .returned (.slice (some ⟨w.heap.size, 0, none⟩) m m) ∧ IntBlock w' w.heap.size (List.replicate m x) ∧ Below w.heap.size w w' := by
  have HM := Lib.hid (mul_small m hm)
  have mk0 := make_ints m (by omega)
  obtain ⟨W1, hW1⟩ : ∃ W1, w.alloc (.cells (madeCells #[.int .i64 0] m) 3) = W1 := ⟨_, rfl⟩
  have HI1 : Hid (IntBlock W1 w.heap.size (repZ x 0 m)) := by show IntBlock _ _ _; rw [← hW1]; exact made_ints w m
  have HB1 : Hid (Below w.heap.size w W1) := by show Below _ _ _; rw [← hW1]; exact (Below.refl _ w).alloc (Nat.le_refl _) _
  have hc1 : W1.cell? ⟨b, o, none⟩ = some (.int .i64 x) := (HB1.out.cell (p := ⟨b, o, none⟩) hb).trans hc
  have hs1 : b < W1.heap.size := Nat.lt_of_lt_of_le hb HB1.out.size
  obtain ⟨W2, hr2, hi2, hm2⟩ := run_copy_ib W1 w.heap.size 0 m (repZ x 0 m) (List.replicate 1 x) [x] (by rw [repZ_len]; omega) (by omega) HI1.out m m (some ⟨b, o, none⟩) 1 c (by simp; omega)
    (fun _ => ⟨b, o, rfl, hs1, fun j u hu => by
      cases j with
      | zero => obtain rfl : ic x = u := by simpa using hu
                exact hc1
      | succ j => simp at hu⟩) (by simp) (by simp; omega)
  rw [repZ_up] at hi2
  have HI2 : Hid (IntBlock W2 w.heap.size (repZ x 1 (m - 1))) := hi2
  have HB2 : Hid (Below w.heap.size w W2) := hm2.below HB1.out HB1.out.size (fun k hk => by cases hk; exact Nat.le_refl _)
  rw [List.length_replicate] at hr2
  clear hi2 hm2 hc hc1 HI1 HB1
  go_enter Tryz.func157, Tryz.ntmps157
  go_wp2_with (first
    | (go_at_call 168; refine (HM.out _).mono ?_; rintro e w' ⟨rfl, rfl⟩))
  go_loopg [8] (m - 1) (fun gk i wr => ∃ n : Nat, n + gk = m ∧ 1 ≤ n ∧ i = .int .i64 (n : Int) ∧ IntBlock wr w.heap.size (repZ x n (m - n)) ∧ Below w.heap.size w wr)
  case atStart => exact ⟨1, by omega, by omega, rfl, HI2.out, HB2.out⟩
  case round =>
    obtain ⟨n, hn, hn1, rfl, hib, hbl⟩ := hrel
    have HIB := Lib.hid hib
    have HBL := Lib.hid hbl
    clear hib hbl HI2 HB2 hr2 mk0 hW1
    by_cases hnm : n < m
    · obtain ⟨j, hj⟩ : ∃ j, min n (m - n) = j := ⟨_, rfl⟩
      obtain ⟨W3, hr3, hi3, hm3⟩ := run_copy_ib wr.drew w.heap.size n m (repZ x n (m - n)) (List.replicate j x) (repZ x n (m - n)) (by rw [repZ_len]; omega) (by omega) HIB.out (m - n) (m - n) (some ⟨w.heap.size, 0, none⟩) n m (by rw [List.length_replicate]; omega)
        (ib_cells HIB.out (ib_lt HIB.out)) (by
          rw [List.length_replicate, repZ, List.take_append_of_le_length (by rw [List.length_replicate]; omega), List.take_replicate, Nat.min_eq_left (by omega)]) (by rw [List.length_replicate]; omega)
      rw [repZ_up] at hi3
      rw [List.length_replicate] at hr3
      have HI3 := Lib.hid hi3
      have HB3 : Hid (Below w.heap.size w W3) := hm3.below HBL.out.drew HBL.out.size (fun k hk => by cases hk; exact Nat.le_refl _)
      clear hi3 hm3
      go_upto_region 9 with fail
      go_region
      go_wp2
      go_roundg (gk - j)
      case measure => omega
      case rel => exact ⟨n + j, by omega, by omega, by go_num, by have h := HI3.out; rw [show m - n - j = m - (n + j) by omega] at h; exact h, HB3.out⟩
    · obtain rfl : n = m := by omega
      go_wp2
      go_ret
      exact ⟨rfl, by have h := HIB.out; rw [Nat.sub_self, repZ_done] at h; exact h, HBL.out⟩
end Go.Proofs.YtkikgidmioofaaaGreat
