/- The walk of FieldStays. -/
import Derived.Test.YtlbjamnbbkaooaaFieldRd
import Derived.Test.YtlbjamnbbkaooaaLists
namespace Go.Proofs.Ytlbjamnbbkaooaa
open Go.RowKit FieldP

/-- A call: its kind and its number. -/
structure FOp where
  kind : Int
  n : Int
def FOp.code (r : FOp) : List Value := [.int .i64 r.kind, .int .i64 r.n]
def FOp.good (r : FOp) : Prop := (-9223372036854775808 ≤ r.kind ∧ r.kind ≤ 9223372036854775807) ∧ -9223372036854775808 ≤ r.n ∧ r.n ≤ 9223372036854775807
theorem fops_of_lies {w : World} {a : Option Addr} {len cap : Nat} (h : Lies w (.slice (.cons (.int .i64) (.cons (.int .i64) .nil))) [.slice a len cap]) :
    ∃ rs : List FOp, rs.length = len ∧ len ≤ 9223372036854775807 ∧ (∀ r ∈ rs, r.good) ∧ (∀ r ∈ rs, (r.code).length = 2) ∧ Cells w w.heap.size a (rs.map FOp.code).flatten :=
  rows_as FOp.code FOp.good h (fun x _ hx => by
    obtain ⟨c1, c2, rfl, _, _, ⟨k, rfl, hk⟩, ⟨c3, c4, rfl, _, _, ⟨n, rfl, hn⟩, rfl⟩⟩ := hx
    exact ⟨⟨k, n⟩, rfl, bounds_i64 hk, bounds_i64 hn⟩)

theorem stays_big (A : Option Addr) (l c : Nat) (A1 : Option Addr) (l1 c1 : Nat) (w : World) (h : 3000 < l ∨ 100 < l1) :
    Calls Try.prog 6 #[.slice A l c, .slice A1 l1 c1] w fun e w' => e = .returned (.bool true) ∧ Below w.heap.size w w' := by
  by_cases h1 : 3000 < l
  · have hbi : (3000 : Int) < (l : Int) := by omega
    clear h
    go_enter Try.func6, Try.ntmps6
    go_wp2_with (go_at_call 11; refine (lives_any _).mono ?_; rintro e w4 ⟨rfl, hb4⟩; have HB4 := Lib.hid hb4; clear hb4)
    go_ret
    exact ⟨rfl, HB4.out⟩
  have hbi : ¬ (3000 : Int) < (l : Int) := by omega
  have h2 : (100 : Int) < (l1 : Int) := by omega
  clear h
  go_enter Try.func6, Try.ntmps6
  go_wp2_with (go_at_call 11; refine (lives_any _).mono ?_; rintro e w4 ⟨rfl, hb4⟩; have HB4 := Lib.hid hb4; clear hb4)
  go_ret
  exact ⟨rfl, HB4.out⟩

set_option maxRecDepth 100000 in
set_option maxHeartbeats 1000000 in
theorem stays_walk (A : Option Addr) (l c : Nat) (Y : Option Addr) (l1 cY : Nat) (rs : List FOp) (w : World) (hm : l ≤ 3000) (hl1 : rs.length = l1) (hm1 : l1 ≤ 100)
    (hg : ∀ r ∈ rs, r.good) (hs : ∀ r ∈ rs, (r.code).length = 2) (hb1 : Cells w w.heap.size Y (rs.map FOp.code).flatten) :
    Calls Try.prog 6 #[.slice A l c, .slice Y l1 cY] w fun e w' => e = .returned (.bool true) ∧ Below w.heap.size w w' := by
  have HL1 := Lib.hid hl1
  have HG := Lib.hid hg
  have HS := Lib.hid hs
  have HB1 : Hid (Cells w w.heap.size Y (rs.map FOp.code).flatten) := hb1
  clear hl1 hg hs hb1
  have hbi : ¬ (3000 : Int) < (l : Int) := by omega
  have hbi2 : ¬ (100 : Int) < (l1 : Int) := by omega
  go_enter Try.func6, Try.ntmps6
  go_wp2_with (go_at_call 16; refine (new_any _ _ _ _).mono ?_; rintro e w' ⟨rfl, rfl⟩)
  refine (bytes_neg w.heap.size A l c _ _ _ (rd_new A l c w) (by omega)).mono ?_
  rintro e w3 ⟨rfl, hrd, honly⟩
  have HRD := Lib.hid hrd
  have HBEL := Lib.hid (only_below honly ((Below.refl w.heap.size w).alloc (Nat.le_refl _) _) (by simp) (Nat.le_refl _))
  clear hrd honly
  generalize hgg : w.heap.size = g at *
  have HGG := Lib.hid hgg
  clear hgg
  go_wp2
  go_loopw [6] (fun i wr => ∃ k : Nat, k ≤ l1 ∧ i = .int .i64 k ∧ Rd wr g A l c 0 true ∧ Below g w wr) (fun i _ => l1 - (intOf i).toNat)
  case atStart => exact ⟨0, by omega, rfl, HRD.out, HBEL.out⟩
  case round =>
    obtain ⟨i, hi, rfl, hrd, hbel⟩ := hrel
    have HRD5 := Lib.hid hrd
    have HBEL5 := Lib.hid hbel
    clear hrd hbel HRD HBEL
    have HOK := Lib.hid (ok_any g A l c _ true wr HRD5.out)
    by_cases hil : i < l1
    · obtain ⟨x, hxi⟩ := get_lt (bs := rs) (k := i) (by rw [HL1.out]; exact hil)
      obtain ⟨⟨k0, k1⟩, n0, n1⟩ := HG.out x (List.mem_of_getElem? hxi)
      have HNUM := Lib.hid (number_bad g A l c 0 x.n wr HRD5.out)
      have HBY := Lib.hid (bytes_bad g A l c 0 x.n wr HRD5.out)
      have hpos : 0 < ((rs.map FOp.code).flatten).length := (List.getElem?_eq_some_iff.1 (code_at (s := 2) (j := 0) HS.out hxi rfl)).1 |> fun h => by omega
      obtain ⟨b', o, rfl, hbB, hcell⟩ := HB1.out.below HBEL5.out (Nat.le_refl _) hpos
      have hc0 := hcell _ _ (code_at (s := 2) (j := 0) HS.out hxi rfl)
      have hc1 := hcell _ _ (code_at (s := 2) (j := 1) HS.out hxi rfl)
      clear hcell hxi
      rw [Nat.add_zero] at hc0
      rw [← Nat.add_assoc] at hc1
      generalize x.kind = kd at *
      generalize x.n = n at *
      by_cases e0 : kd = 0
      · subst e0
        go_wp2_with (first | (go_at_call 19; refine HOK.out.mono ?_; rintro e w' ⟨rfl, rfl⟩) | (go_at_call 18; refine HNUM.out.mono ?_; rintro e w' ⟨rfl, rfl⟩) | (go_at_call 21; refine HBY.out.mono ?_; rintro e w' ⟨rfl, rfl⟩))
        exact ⟨⟨i + 1, by omega, by go_num, HRD5.out, HBEL5.out⟩, by simp [intOf]; omega⟩
      have he0 : (kd == 0) = false := by simpa using e0
      by_cases e1 : kd = 1
      · subst e1
        go_wp2_with (first | (go_at_call 19; refine HOK.out.mono ?_; rintro e w' ⟨rfl, rfl⟩) | (go_at_call 18; refine HNUM.out.mono ?_; rintro e w' ⟨rfl, rfl⟩) | (go_at_call 21; refine HBY.out.mono ?_; rintro e w' ⟨rfl, rfl⟩))
        exact ⟨⟨i + 1, by omega, by go_num, HRD5.out, HBEL5.out⟩, by simp [intOf]; omega⟩
      have he1 : (kd == 1) = false := by simpa using e1
      go_wp2_with (first | (go_at_call 19; refine HOK.out.mono ?_; rintro e w' ⟨rfl, rfl⟩) | (go_at_call 18; refine HNUM.out.mono ?_; rintro e w' ⟨rfl, rfl⟩) | (go_at_call 21; refine HBY.out.mono ?_; rintro e w' ⟨rfl, rfl⟩))
      exact ⟨⟨i + 1, by omega, by go_num, HRD5.out, HBEL5.out⟩, by simp [intOf]; omega⟩
    · obtain rfl : i = l1 := by omega
      go_wp2_with (first | (go_at_call 19; refine HOK.out.mono ?_; rintro e w' ⟨rfl, rfl⟩) | (go_at_call 11; refine (lives_any _).mono ?_; rintro e w4 ⟨rfl, hb4⟩; have HB4 := Lib.hid hb4; clear hb4))
      go_ret
      exact ⟨rfl, by rw [HGG.out]; exact HBEL5.out.trans (HB4.out.mono (by have := HBEL5.out.size; have := HGG.out; omega))⟩

theorem stays_all (A : Option Addr) (l c : Nat) (Y : Option Addr) (l1 cY : Nat) (w : World) (h1 : Lies w (.slice (.cons (.int .i64) (.cons (.int .i64) .nil))) [.slice Y l1 cY]) :
    Calls Try.prog 6 #[.slice A l c, .slice Y l1 cY] w fun e w' => e = .returned (.bool true) ∧ Below w.heap.size w w' := by
  by_cases h : 3000 < l ∨ 100 < l1
  · exact stays_big A l c Y l1 cY w h
  · obtain ⟨rs, hl1, _, hg, hs, hc⟩ := fops_of_lies h1
    exact stays_walk A l c Y l1 cY rs w (by omega) hl1 (by omega) hg hs hc
end Go.Proofs.Ytlbjamnbbkaooaa
