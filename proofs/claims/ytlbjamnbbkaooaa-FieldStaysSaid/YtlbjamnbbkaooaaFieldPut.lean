/- The contracts of layer 2's Put, the reference's Put, and lives. -/
import Derived.Test.YtlbjamnbbkaooaaFieldLeaf
import Derived.Test.YtlbjamnbbkaooaaGrow
namespace Go.Proofs.Ytlbjamnbbkaooaa
open Go.RowKit FieldP

theorem byteElem : Elem Try.prog 22 5 (.int .u8 0) 1 1 := Elem.of Try.underlying22 (by kernel_rfl) rfl (by omega)

/-- Bytes that the call owns grow. -/
abbrev AppB (w : World) (base : Nat) (v : Value) (n : Nat) (bs : List UInt8) (w' : World) (v' : Value) : Prop := App w base 5 1 v n (byteCells bs) w' v'

theorem byteCells_snoc (bs : List UInt8) (n : Nat) : byteCells bs ++ [Value.int .u8 ((n : Int) % 256)] = byteCells (bs ++ [UInt8.ofNat n]) := by
  rw [byteCells_append, ← byte_cell]
  rfl

set_option maxRecDepth 100000 in
set_option maxHeartbeats 400000 in
theorem put_any (v : Value) (l : Nat) (bs : List UInt8) (n b : Int) (base : Nat) (w : World) (hl : l ≤ 1099511627776) (n0 : 0 ≤ n) (n1 : n < 4294967296)
    (b0 : -9223372036854775808 ≤ b) (b1 : b ≤ 9223372036854775807) (hown : OwnB w base 5 v l bs) (hbase : base ≤ w.heap.size) :
    Calls Try.prog 12 #[v, .int .u32 n, .int .i64 b] w fun e w' => ∃ A c, e = .returned (.slice A (l + cnt b) c) ∧ AppB w base v (l + cnt b) (bs ++ putN n.toNat (cnt b)) w' (.slice A (l + cnt b) c) := by
  obtain ⟨m, rfl⟩ := Int.eq_ofNat_of_zero_le n0
  rw [Int.toNat_natCast]
  have HOWN := Lib.hid hown
  have HBASE := Lib.hid hbase
  have HCNT := Lib.hid (count_any b w b0 b1)
  have hc4 := cnt_le b
  clear hown hbase b0 b1
  generalize cnt b = q at *
  go_enter Try.func12, Try.ntmps12
  go_wp2_with (go_at_call 40; refine HCNT.out.mono ?_; rintro e w' ⟨rfl, rfl⟩)
  go_loopw [0, 1, 9] (fun vk nk i wr => ∃ k : Nat, k ≤ q ∧ i = .int .i64 k ∧ nk = .int .u32 (sh m k : Nat) ∧ AppB w base v (l + k) (bs ++ putN m k) wr vk) (fun _ _ i _ => q - (intOf i).toNat)
  case atStart => exact ⟨0, Nat.zero_le _, rfl, rfl, by simpa [putN] using App.start HOWN.out⟩
  case round =>
    obtain ⟨k, hk, rfl, rfl, happ⟩ := hrel
    have HAPP := Lib.hid happ
    clear happ
    have hsl := sh_le m k
    have HS : Hid (sh m (k + 1) = sh m k / 256) := rfl
    have HP : Hid (putN m (k + 1) = putN m k ++ [UInt8.ofNat (sh m k)]) := rfl
    generalize sh m k = y at *
    by_cases hkq : k < q
    · obtain ⟨A, c, rfl⟩ := HAPP.out.form
      go_wp2_with (at_builtin; refine wpList_app1 _ byteElem rfl (.tmp 11) (.tmp 14) rfl base (.slice A (l + k) c) (l + k) _ rfl HAPP.out.own _ rfl rfl (by simp [Value.oneCell']) (by unfold maxLen; omega) (by omega) (by have := HAPP.out.grow.size; have := HBASE.out; omega) ?_; intro A' c' w2 hA; have HA := Lib.hid hA; clear hA)
      refine ⟨⟨k + 1, by omega, by go_num, by rw [HS.out]; go_num, ?_⟩, by simp [intOf]; omega⟩
      rw [HP.out, ← List.append_assoc]
      show App w base _ 1 v (l + k + 1) (byteCells (bs ++ putN m k ++ [UInt8.ofNat y])) w2 _
      rw [← byteCells_snoc]
      exact HAPP.out.trans HA.out
    · obtain rfl : k = q := by omega
      obtain ⟨A, c, rfl⟩ := HAPP.out.form
      go_wp2
      go_ret
      exact ⟨A, c, rfl, HAPP.out⟩

theorem putN_one (n : Nat) : putN n 1 = [UInt8.ofNat n] := rfl

set_option maxRecDepth 100000 in
set_option maxHeartbeats 400000 in
theorem refPut_any (n b : Int) (w : World) (n0 : 0 ≤ n) (n1 : n < 4294967296) (b0 : -9223372036854775808 ≤ b) (b1 : b ≤ 9223372036854775807) :
    Calls Try.prog 13 #[.int .u32 n, .int .i64 b] w fun e w' => ∃ A c, e = .returned (.slice A (cnt b) c) ∧ OwnB w' w.heap.size 5 (.slice A (cnt b) c) (cnt b) (putN n.toNat (cnt b)) ∧ Below w.heap.size w w' := by
  obtain ⟨m, rfl⟩ := Int.eq_ofNat_of_zero_le n0
  rw [Int.toNat_natCast]
  have HCNT := Lib.hid (fun W => width_any b W b0 b1)
  have hc4 := cnt_le b
  have hc1 := cnt_pos b
  clear b0 b1
  generalize cnt b = q at *
  go_enter Try.func13, Try.ntmps13
  go_wp2
  go_loopw [0, 5, 6] (fun nk vk i wr => ∃ k : Nat, k + 1 ≤ q ∧ i = .int .i64 (k + 1 : Nat) ∧ nk = .int .u32 (sh m k : Nat) ∧ OwnB wr w.heap.size 5 vk (k + 1) (putN m (k + 1)) ∧ Below w.heap.size w wr) (fun _ _ i _ => q - (intOf i).toNat)
  case atStart =>
    refine ⟨0, by omega, rfl, rfl, ?_, (Below.refl _ _).alloc (Nat.le_refl _) _⟩
    have h := World.ownsRow_lit (base := w.heap.size) (e := 5) (size := 1) w #[.int .u8 ((m : Int) % 256)] 1 (Nat.le_refl _) (by unfold maxLen; omega) rfl
    rw [putN_one]
    simpa [OwnB, byteCells, byte_cell] using h
  case round =>
    obtain ⟨k, hk, rfl, rfl, hown, hbel⟩ := hrel
    have HOWN := Lib.hid hown
    have HBEL := Lib.hid hbel
    clear hown hbel
    have hsl := sh_le m k
    have HS : Hid (sh m (k + 1) = sh m k / 256) := rfl
    have HP : Hid (putN m (k + 2) = putN m (k + 1) ++ [UInt8.ofNat (sh m (k + 1))]) := rfl
    have hr : ((k + 1 : Nat) : Int) = (k : Int) + 1 := by omega
    rw [hr]
    clear hr
    by_cases hkq : k + 1 < q
    · have hd : decide ((k : Int) + 1 < (q : Int)) = true := by simp; omega
      obtain ⟨A, c, rfl⟩ := own_form HOWN.out
      go_wp2_with (first | (go_at_call 41; refine (HCNT.out _).mono ?_; rintro e w' ⟨rfl, rfl⟩) | (at_builtin; refine wpList_app1 _ byteElem rfl (.tmp 19) (.tmp 23) rfl w.heap.size (.slice A (k + 1) c) (k + 1) _ rfl HOWN.out _ rfl rfl (by simp [Value.oneCell']) (by unfold maxLen; omega) (by omega) HBEL.out.size ?_; intro A' c' w2 hA; have HA := Lib.hid hA; clear hA))
      refine ⟨⟨k + 1, by omega, by go_num, by rw [HS.out]; go_num, ?_, HA.out.below HBEL.out HBEL.out.size (own_base HOWN.out)⟩, by simp [intOf]; omega⟩
      have := HA.out.own
      rw [HP.out, OwnB, ← byteCells_snoc, HS.out]
      simpa using this
    · obtain rfl : q = k + 1 := by omega
      have hd : decide ((k : Int) + 1 < ((k + 1 : Nat) : Int)) = false := by simp
      obtain ⟨A, c, rfl⟩ := own_form HOWN.out
      go_wp2_with (go_at_call 41; refine (HCNT.out _).mono ?_; rintro e w' ⟨rfl, rfl⟩)
      go_ret
      exact ⟨A, c, rfl, HOWN.out, HBEL.out⟩

def livesBytes : List UInt8 := [1, 2]
theorem putN_lives : ([] : List UInt8) ++ putN 513 (cnt 2) = livesBytes := by decide

set_option maxRecDepth 100000 in
set_option maxHeartbeats 400000 in
theorem lives_any (w : World) : Calls Try.prog 11 #[] w fun e w' => e = .returned (.bool true) ∧ Below w.heap.size w w' := by
  go_enter Try.func11, Try.ntmps11
  go_wp2_with fail
  refine (put_any _ 0 [] _ _ w.heap.size _ (by omega) (by omega) (by omega) (by omega) (by omega) (World.ownsRow_nil _ _ _ _) (Nat.le_refl _)).mono ?_
  rintro e w1 ⟨A, c, rfl, happ⟩
  have HB := Lib.hid (happ.below (Below.refl w.heap.size w) (Nat.le_refl _) (by simp [Value.ownBlock]))
  have hc : (convert 22 9 (.slice A 2 c)).run Try.prog w1 = .ok (.string ⟨#[1, 2]⟩) w1 :=
    run_string_of (B := w1.heap.size) (bs := livesBytes) 22 9 5 Try.underlying22 Try.underlying5 Try.underlying9
      (by have := Cells.of_own happ.own; rwa [show (513 : Int).toNat = 513 from rfl, putN_lives] at this) rfl
  clear happ
  rw [show 0 + cnt 2 = 2 from rfl]
  go_wp2
  go_ret
  exact ⟨rfl, HB.out⟩
end Go.Proofs.Ytlbjamnbbkaooaa
