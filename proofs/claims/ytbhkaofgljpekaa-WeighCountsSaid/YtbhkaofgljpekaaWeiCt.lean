/- Layer 7: how often each byte is there. -/
import Derived.Test.YtbhkaofgljpekaaWeiLv
namespace Go.Proofs.Ytbhkaofgljpekaa
open Go.RowKit

def cntB (bs : List UInt8) : List Nat := incW (List.replicate 256 0) (bs.map (·.toNat))
theorem cntB_len (bs : List UInt8) : (cntB bs).length = 256 := by rw [cntB, incW_len, List.length_replicate]
theorem cntB_snoc (bs : List UInt8) (x : UInt8) : cntB (bs ++ [x]) = (cntB bs).set x.toNat ((cntB bs).getD x.toNat 0 + 1) := by
  rw [cntB, List.map_append, incW_append]
  rfl
theorem count_map (bs : List UInt8) (c : UInt8) : (bs.map (·.toNat)).count c.toNat = bs.count c := by
  rw [List.count, List.countP_map, List.count]
  refine List.countP_congr fun x _ => ?_
  simp [← UInt8.toNat_inj]
theorem cntB_at (bs : List UInt8) (c : UInt8) : (cntB bs)[c.toNat]? = some (bs.count c) := by
  have hlt : c.toNat < 256 := c.toNat_lt
  have h := incW_getD (bs.map (·.toNat)) (List.replicate 256 0) c.toNat (by rw [List.length_replicate]; exact hlt)
  have h0 : (List.replicate 256 0).getD c.toNat 0 = 0 := by rw [List.getD, List.getElem?_replicate, if_pos hlt]; rfl
  rw [h0, count_map, Nat.zero_add] at h
  have h2 : c.toNat < (cntB bs).length := by rw [cntB_len]; exact hlt
  rw [List.getElem?_eq_getElem h2]
  rw [List.getD, ← cntB, List.getElem?_eq_getElem h2] at h
  simpa using h
set_option maxHeartbeats 1000000 in
theorem count_any (A : Option Addr) (l c : Nat) (bs : List UInt8) (B : Nat) (w : World) (hl : bs.length = l) (hm : l ≤ 1000000) (hb : Bytes w B A bs) (hB : B ≤ w.heap.size) :
    Calls Try.prog 17 #[.slice A l c] w fun e w' => e = .returned (.slice (some ⟨w.heap.size, 0, none⟩) 256 256) ∧ NB w' w.heap.size (cntB bs) ∧ Below w.heap.size w w' := by
  have HC := Lib.hid hb
  have HL := Lib.hid hl
  obtain ⟨w1, hw1⟩ : ∃ w1, w.alloc (.cells (madeCells #[.int .i64 0] 256) 3) = w1 := ⟨_, rfl⟩
  have hmk : (Instr.makeSlice 22 (.int .i64 256) (.int .i64 256)).run Try.prog w = .ok (.slice (some ⟨w.heap.size, 0, none⟩) 256 256) w1 := by rw [← hw1]; exact wei_make 256 (by omega) w
  have HN1 : Hid (NB w1 w.heap.size (List.replicate 256 0)) := by show NB _ _ _; rw [← hw1]; exact wei_made w 256
  have HB1 : Hid (Below w.heap.size w w1) := by show Below _ _ _; rw [← hw1]; exact (Below.refl _ _).alloc (Nat.le_refl _) _
  obtain ⟨g, hg⟩ : ∃ g, w.heap.size = g := ⟨_, rfl⟩
  rw [hg] at hmk HN1 HB1 hB ⊢
  clear hw1 hb hl hg
  go_enter Try.func17, Try.ntmps17
  go_wp2
  go_loopg [9] l (fun gk i wr => ∃ k : Nat, k + gk = l ∧ i = .int .i64 k ∧ NB wr g (cntB (bs.take k)) ∧ Below g w wr)
  case atStart => exact ⟨0, by omega, rfl, HN1.out, HB1.out⟩
  case round =>
    obtain ⟨k, hk, rfl, hnb, hbl⟩ := hrel
    have HNB := Lib.hid hnb
    have HBL := Lib.hid hbl
    clear hnb hbl
    by_cases h : k < l
    · obtain ⟨x, hx⟩ : ∃ x, bs[k]? = some x := ⟨_, List.getElem?_eq_getElem (by have := HL.out; omega)⟩
      obtain ⟨b, o, rfl, hbB, hc⟩ := (HC.out.below HBL.out hB) (by rw [byteCells_length, HL.out]; omega)
      have c0 : wr.cell? ⟨b, o + k, none⟩ = some (.int .u8 (x.toNat : Int)) := hc k _ (byteCells_get hx)
      have hxl : x.toNat < 256 := x.toNat_lt
      have HT : Hid (bs.take (k + 1) = bs.take k ++ [x]) := by show _ = _; rw [List.take_add_one, hx]; rfl
      have hle := List.count_le_length (a := x) (l := bs.take k)
      rw [List.length_take] at hle
      obtain ⟨n, hn⟩ : ∃ n, (bs.take k).count x = n := ⟨_, rfl⟩
      rw [hn] at hle
      have hnl : n ≤ 1000000 := by omega
      have hat := cntB_at (bs.take k) x
      rw [hn] at hat
      have d0 := HNB.out.cell hat
      have d1 : wr.frozen? ⟨g, x.toNat, none⟩ = false := HNB.out.free
      have HS : Hid (NB (wr.setCell ⟨g, x.toNat, none⟩ (.int .i64 ((n + 1 : Nat) : Int))) g (cntB (bs.take (k + 1)))) := by
        have h1 := HNB.out.set x.toNat (n + 1)
        rw [HT.out, cntB_snoc, List.getD, hat]
        exact h1
      have HS2 := HS.out
      rw [Int.natCast_add] at HS2
      have HS3 := Lib.hid HS2
      obtain ⟨v, hv⟩ : ∃ v, x.toNat = v := ⟨_, rfl⟩
      rw [hv] at c0 hxl d0 d1 HS3
      clear hx hc hle hn hat HS HS2 hv
      go_wp2
      go_roundg (gk - 1)
      case measure => omega
      case rel => exact ⟨k + 1, by omega, by go_num, HS3.out, HBL.out.setCell (p := ⟨g, v, none⟩) (Nat.le_refl _) _⟩
    · obtain rfl : k = l := by omega
      have ht : bs.take k = bs := List.take_of_length_le (by have := HL.out; omega)
      rw [ht] at HNB
      go_wp2
      go_ret
      exact ⟨rfl, HNB.out, HBL.out⟩
end Go.Proofs.Ytbhkaofgljpekaa
