/- Layer 14: the reference's Piece. -/
import Derived.Test.YtaknladkodibaaaGreatMgQ21536
import Derived.Deep.LoopGhost
namespace Go.Proofs.YtaknladkodibaaaGreat
open Go.RowKit CrcP FieldP
attribute [local go_sem ↓] Go.wp_at_zero Go.wp_at_succ

theorem cells_two (w : World) (u v : Value) (t : TypeId) : Cells (w.alloc (.cells #[u, v] t)) (w.alloc (.cells #[u, v] t)).heap.size (some ⟨w.heap.size, 0, none⟩) [u, v] := fun _ =>
  ⟨w.heap.size, 0, rfl, by simp, fun j x hx => by rw [Nat.zero_add, cell_of_row _ _ j _ _ _ (heap_alloc_new w _), ← Array.getElem?_toList]; exact hx⟩
theorem putN_two {n : Nat} (h : n < 65536) : byteCells (putN n 2) = [.int .u8 ((n % 256 : Nat) : Int), .int .u8 ((n / 256 : Nat) : Int)] := by
  have e : putN n 2 = [UInt8.ofNat n, UInt8.ofNat (n / 256)] := by simp [putN, sh]
  rw [e]
  have h1 : (UInt8.ofNat n).toNat = n % 256 := UInt8.toNat_ofNat'
  have h2 : (UInt8.ofNat (n / 256)).toNat = n / 256 := by rw [UInt8.toNat_ofNat']; exact Nat.mod_eq_of_lt (by show _ < 256; omega)
  simp only [byteCells, List.map_cons, List.map_nil, h1, h2]
set_option maxRecDepth 100000 in
set_option maxHeartbeats 600000 in
theorem rpiece_any (A : Option Addr) (l c B : Nat) (bs : List UInt8) (w : World) (hl : bs.length = l) (hm : l ≤ 3000) (hc : l ≤ c) (hb : Bytes w B A bs) (hB : B ≤ w.heap.size) :
    Calls Tryz.prog 5 #[.slice A l c] w fun e w' => ∃ A' n c', e = .returned (.slice A' n c') ∧ OwnB w' w.heap.size 5 (.slice A' n c') n (pieceB bs) ∧ Below w.heap.size w w' := by
  have HL := Lib.hid hl
  have HB : Hid (∀ V, Below w.heap.size w V → Bytes V B A bs) := fun V hV => hb.below hV hB
  have HBS := Lib.hid hB
  clear hl hb hB
  go_enter Tryz.func5, Tryz.ntmps5
  go_wp2
  go_loopg [3, 4, 5] 1 (fun gk so si _sn wr => (gk = 1 ∧ so = .slice none 0 0 ∧ si = .int .i64 0 ∧ wr = w) ∨ (gk = 0 ∧ 0 < l ∧ si = .int .i64 65535 ∧ ∃ (A' : Option Addr) (n c' : Nat), so = .slice A' n c' ∧ OwnB wr w.heap.size 5 (.slice A' n c') n (pieceB bs) ∧ Below w.heap.size w wr))
  case atStart => exact .inl ⟨rfl, rfl, rfl, rfl⟩
  case round =>
    rcases hrel with ⟨rfl, rfl, rfl, rfl⟩ | ⟨rfl, h0, rfl, A', n, c', rfl, hown, hbel⟩
    · by_cases h0 : l = 0
      · have HP : Hid (pieceB bs = []) := by show _ = _; unfold pieceB; rw [if_pos (List.eq_nil_of_length_eq_zero (by rw [HL.out]; exact h0))]
        have t0 : decide ((0 : Int) < (l : Int)) = false := decide_eq_false (by omega)
        have t0n : decide (0 < l) = false := decide_eq_false (by omega)
        clear h0
        go_wp2
        go_ret
        exact ⟨none, 0, 0, rfl, by rw [HP.out]; exact World.ownsRow_nil _ _ _ _, Below.refl _ _⟩
      · have t0 : decide ((0 : Int) < (l : Int)) = true := decide_eq_true (by omega)
        have t0n : decide (0 < l) = true := decide_eq_true (by omega)
        have HP : Hid (byteCells (pieceB bs) = [.int .u8 ((l % 256 : Nat) : Int), .int .u8 ((l / 256 : Nat) : Int)] ++ byteCells bs) := by
          show _ = _
          unfold pieceB
          rw [if_neg (fun e => by rw [e] at HL; exact h0 HL.out.symm), byteCells_append, HL.out, putN_two (by omega)]
        obtain ⟨b, o, rfl, hbB, hcc⟩ := HB.out wr (Below.refl _ _) (by rw [byteCells_length, HL.out]; omega)
        have hw0 : Int.emod ((l : Int) % 256) 256 = ((l % 256 : Nat) : Int) := by rw [show Int.emod ((l : Int) % 256) 256 = ((l : Int) % 256) % 256 from rfl]; omega
        have HP0 : Hid (0 < l) := Nat.pos_of_ne_zero h0
        clear hcc h0
        go_wp2_with (first
          | (at_builtin; refine wpList_app (wr.alloc (.cells #[.int .u8 ((l % 256 : Nat) : Int), .int .u8 ((l / 256 : Nat) : Int)] 5)) byteElem rfl (.tmp 18) (.tmp 25) rfl wr.heap.size (.slice none 0 0) 0 [] rfl (World.ownsRow_nil _ _ _ _) _ _ 2 2 _ rfl rfl (cells_two wr _ _ _) (by simp [Value.oneCell']) (by unfold maxLen; omega) (by omega) (by simp) ?_; intro A1 c1 w1 hA; have HA1 := Lib.hid hA; have HB1 := Lib.hid (hA.below ((Below.refl _ wr).alloc (Nat.le_refl _) _) (by simp) (fun k hk => by cases hk)); clear hA)
          | (at_builtin; refine wpList_app w1 byteElem rfl (.tmp 27) (.tmp 33) rfl wr.heap.size (.slice A1 (0 + 2) c1) (0 + 2) _ rfl HA1.out.own B (some ⟨b, o, none⟩) l c (byteCells bs) rfl (by rw [byteCells_length, HL.out, Nat.mul_one]) (HB.out w1 HB1.out) (byteCells_one _) (by unfold maxLen; omega) (by omega) HB1.out.size ?_; intro A2 c2 w2 hA; have HA2 := Lib.hid hA; clear hA))
        go_roundg 0
        case measure => omega
        case rel =>
          refine .inr ⟨rfl, HP0.out, rfl, A2, 0 + 2 + l, c2, rfl, ?_, HA2.out.below HB1.out HB1.out.size (own_base HA1.out.own)⟩
          have h := HA2.out.own
          unfold OwnB
          rw [HP.out]
          exact h
    · have HO := Lib.hid hown
      have HBE := Lib.hid hbel
      have t0 : decide ((65535 : Int) < (l : Int)) = false := decide_eq_false (by omega)
      have t0n : decide (65535 < l) = false := decide_eq_false (by omega)
      clear hown hbel
      go_wp2
      go_ret
      exact ⟨A', n, c', rfl, HO.out, HBE.out⟩
end Go.Proofs.YtaknladkodibaaaGreat
