/- Layer 16, plainly: what was put is taken. -/
import Derived.Test.YtlbhflhmakdfmaaDoorLcPut
import Derived.Test.YtlbhflhmakdfmaaDoorLcAns
namespace Go.Proofs.YtlbhflhmakdfmaaDoor
open Go.RowKit CrcP FieldP

theorem headB_parts (m : Nat) (l : List UInt8) (sz ar su : Nat) : headB m l sz ar su = headBytes ++ (putN m 1 ++ (putN l.length 1 ++ (putN sz 4 ++ (putN ar 4 ++ (putN su 4 ++ (l ++ putN (sumN (hdF m l.length sz ar su 5 ++ l)) 4)))))) := by
  unfold headB sealed
  simp [hdF, List.append_assoc]
theorem val_put1' {n : Nat} (h : n < 256) : val (putN n 1) = n := by rw [val_putN]; exact Nat.mod_eq_of_lt h
theorem lcS_next {bs : List UInt8} {s : RSt} {k q : Nat} (h : lcS bs s k = ⟨q, false⟩) (hl : q + wid k ≤ bs.length) : lcS bs s (k + 1) = ⟨q + wid k, false⟩ ∧ lcN bs s k = val ((bs.drop q).take (wid k)) := by
  refine ⟨?_, ?_⟩
  · show ((lcS bs s k).num bs (wid k)).2 = _
    rw [h, num_there hl]
  · unfold lcN
    rw [h, num_there hl]
theorem head_back {bs l : List UInt8} {p m sz ar su : Nat} (hd : hdB m l sz ar su = true) (hsu : su < 4294967296) (h : (bs.drop p).take (22 + l.length) = headB m l sz ar su) :
    p + 22 + l.length ≤ bs.length ∧ isB headBytes bs p = true ∧ lcV bs p = .tuple #[.agg #[.int .i64 (m : Int), .string ⟨l.toArray⟩, .int .i64 (sz : Int), .int .i64 (ar : Int), .int .u32 (su : Int)], .int .i64 ((p + 22 + l.length : Nat) : Int), .int .i64 0] := by
  obtain ⟨_, h64⟩ := rightB_len' (hdB_name hd)
  obtain ⟨_, hm2, _, hs2, _, ha2⟩ := hdB_nums hd
  have hl : p + 22 + l.length ≤ bs.length := by
    have := congrArg List.length h
    rw [headB_length, List.length_take, List.length_drop] at this
    omega
  have hX := headB_parts m l sz ar su
  have hsum := sumN_lt (hdF m l.length sz ar su 5 ++ l)
  have d0 : (headB m l sz ar su).take 4 = headBytes := by rw [hX]; exact app_take rfl
  have d4 : ((headB m l sz ar su).drop 4).take 1 = putN m 1 := by rw [hX, app_drop (n := 4) rfl]; exact app_take (putN_length _ _)
  have d5 : ((headB m l sz ar su).drop 5).take 1 = putN l.length 1 := by
    rw [hX, show (5 : Nat) = 4 + 1 from rfl, ← List.drop_drop, app_drop (n := 4) rfl, app_drop (putN_length _ _)]
    exact app_take (putN_length _ _)
  have d6 : ((headB m l sz ar su).drop 6).take 4 = putN sz 4 := by
    rw [hX, show (6 : Nat) = 4 + 1 + 1 from rfl, ← List.drop_drop, ← List.drop_drop, app_drop (n := 4) rfl, app_drop (putN_length _ _), app_drop (putN_length _ _)]
    exact app_take (putN_length _ _)
  have d10 : ((headB m l sz ar su).drop 10).take 4 = putN ar 4 := by
    rw [hX, show (10 : Nat) = 4 + 1 + 1 + 4 from rfl, ← List.drop_drop, ← List.drop_drop, ← List.drop_drop, app_drop (n := 4) rfl, app_drop (putN_length _ _), app_drop (putN_length _ _), app_drop (putN_length _ _)]
    exact app_take (putN_length _ _)
  have d14 : ((headB m l sz ar su).drop 14).take 4 = putN su 4 := by
    rw [hX, show (14 : Nat) = 4 + 1 + 1 + 4 + 4 from rfl, ← List.drop_drop, ← List.drop_drop, ← List.drop_drop, ← List.drop_drop, app_drop (n := 4) rfl, app_drop (putN_length _ _), app_drop (putN_length _ _), app_drop (putN_length _ _), app_drop (putN_length _ _)]
    exact app_take (putN_length _ _)
  have d18 : ((headB m l sz ar su).drop 18).take l.length = l := by
    rw [hX, show (18 : Nat) = 4 + 1 + 1 + 4 + 4 + 4 from rfl, ← List.drop_drop, ← List.drop_drop, ← List.drop_drop, ← List.drop_drop, ← List.drop_drop, app_drop (n := 4) rfl, app_drop (putN_length _ _), app_drop (putN_length _ _), app_drop (putN_length _ _), app_drop (putN_length _ _), app_drop (putN_length _ _)]
    exact app_take rfl
  have hFl : (hdF m l.length sz ar su 5 ++ l).length = 18 + l.length := by simp [hdF, putN_length, headBytes]; omega
  have dn : ((headB m l sz ar su).drop (18 + l.length)).take 4 = putN (sumN (hdF m l.length sz ar su 5 ++ l)) 4 := by
    unfold headB sealed
    rw [app_drop hFl]
    exact List.take_of_length_le (by rw [putN_length]; omega)
  have dh : (headB m l sz ar su).take (18 + l.length) = hdF m l.length sz ar su 5 ++ l := by
    unfold headB sealed
    exact app_take hFl
  have e0 : lcS bs (openS bs p) 0 = ⟨p + 4, false⟩ := by show openS bs p = _; exact openS_there (by omega)
  obtain ⟨e1, n0⟩ := lcS_next e0 (by show p + 4 + 1 ≤ _; omega)
  obtain ⟨e2, n1⟩ := lcS_next e1 (by show p + 4 + 1 + 1 ≤ _; omega)
  obtain ⟨e3, n2⟩ := lcS_next e2 (by show p + 4 + 1 + 1 + 4 ≤ _; omega)
  obtain ⟨e4, n3⟩ := lcS_next e3 (by show p + 4 + 1 + 1 + 4 + 4 ≤ _; omega)
  obtain ⟨e5, n4⟩ := lcS_next e4 (by show p + 4 + 1 + 1 + 4 + 4 + 4 ≤ _; omega)
  have m0 : lcN bs (openS bs p) 0 = m := by rw [n0]; show val ((bs.drop (p + 4)).take 1) = _; rw [cut_in (i := 4) (k := 1) h (by omega), d4, val_put1' (by omega)]
  have m1 : lcN bs (openS bs p) 1 = l.length := by rw [n1]; show val ((bs.drop (p + 5)).take 1) = _; rw [cut_in (i := 5) (k := 1) h (by omega), d5, val_put1' (by omega)]
  have m2 : lcN bs (openS bs p) 2 = sz := by rw [n2]; show val ((bs.drop (p + 6)).take 4) = _; rw [cut_in (i := 6) (k := 4) h (by omega), d6, val_put4 (by omega)]
  have m3 : lcN bs (openS bs p) 3 = ar := by rw [n3]; show val ((bs.drop (p + 10)).take 4) = _; rw [cut_in (i := 10) (k := 4) h (by omega), d10, val_put4 (by omega)]
  have m4 : lcN bs (openS bs p) 4 = su := by rw [n4]; show val ((bs.drop (p + 14)).take 4) = _; rw [cut_in (i := 14) (k := 4) h (by omega), d14, val_put4 (by omega)]
  have eX : lcX bs p = (l, ⟨p + 18 + l.length, false⟩) := by
    unfold lcX
    rw [e5, m1]
    show RSt.row bs ⟨p + 18, false⟩ l.length = _
    rw [row_there (by omega), cut_in (i := 18) (k := l.length) h (by omega), d18]
  have e6 : (lcX bs p).2.num bs 4 = (sumN (hdF m l.length sz ar su 5 ++ l), ⟨p + 18 + l.length + 4, false⟩) := by
    rw [eX]
    show RSt.num bs ⟨p + 18 + l.length, false⟩ 4 = _
    rw [num_there (by omega), show p + 18 + l.length = p + (18 + l.length) by omega, cut_in (i := 18 + l.length) (k := 4) h (by omega), dn, val_put4 hsum]
  have e7 : chkN bs p (lcX bs p).2 = 0 := by
    unfold chkN
    rw [e6, if_neg (by simp), if_pos ?_]
    rw [eX]
    show _ = sumN ((bs.drop p).take (p + 18 + l.length - p))
    rw [show p + 18 + l.length - p = 18 + l.length by omega]
    have := cut_in (i := 0) (k := 18 + l.length) h (by omega)
    rw [Nat.add_zero, List.drop_zero, dh] at this
    rw [this]
  have hR : lcR bs p = 0 := by
    unfold lcR lcHd
    rw [if_pos e7, m0, m2, m3, m4, eX, if_pos hd]
  refine ⟨hl, ?_, ?_⟩
  · rw [isB_in (by show p + 4 ≤ _; omega)]
    have := cut_in (i := 0) (k := 4) h (by omega)
    rw [Nat.add_zero, List.drop_zero, d0] at this
    exact decide_eq_true this
  · rw [lcV_good hR, m0, m2, m3, m4, e6, eX]
    show Value.tuple #[_, .int .i64 ((p + 18 + l.length + 4 : Nat) : Int), _] = _
    rw [show p + 18 + l.length + 4 = p + 22 + l.length by omega]

set_option maxHeartbeats 400000 in
theorem lcLen_any (s : ByteArray) (w : World) (hm : s.size ≤ 1000) : Calls Tryd.prog 10 #[.string s] w fun e w' => e = .returned (.int .i64 ((22 + s.size : Nat) : Int)) ∧ w = w' := by
  have hw : Int.emod ((22 : Int) + (s.size : Int) + 9223372036854775808) 18446744073709551616 - 9223372036854775808 = ((22 + s.size : Nat) : Int) := by
    rw [show Int.emod ((22 : Int) + (s.size : Int) + 9223372036854775808) 18446744073709551616 = ((22 : Int) + (s.size : Int) + 9223372036854775808) % 18446744073709551616 from rfl]
    omega
  go_enter Tryd.func10, Tryd.ntmps10
  go_wp2
  go_ret
  exact ⟨by rw [Int.natCast_add]; rfl, rfl⟩
end Go.Proofs.YtlbhflhmakdfmaaDoor
