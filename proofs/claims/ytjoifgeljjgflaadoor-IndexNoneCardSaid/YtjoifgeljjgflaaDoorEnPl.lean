/- Layer 19, plainly: what was put is taken; what was taken is put as it was. -/
import Derived.Test.YtjoifgeljjgflaaDoorEnTk
import Derived.Test.YtjoifgeljjgflaaDoorCrcRes
namespace Go.Proofs.YtjoifgeljjgflaaDoor
open Go.RowKit CrcP FieldP

theorem mid_of {X l1 a l2 : List UInt8} {i k : Nat} (h : X = l1 ++ a ++ l2) (h1 : l1.length = i) (h2 : a.length = k) : (X.drop i).take k = a := by
  subst h h1 h2
  rw [List.append_assoc, List.drop_left, List.take_left]
theorem val_put (n k : Nat) (h : n < unit k) : val (putN n k) = n := by rw [val_putN]; exact Nat.mod_eq_of_lt h
theorem rd_step {bs : List UInt8} {s : RSt} {k q : Nat} (h : rdS bs s k = ⟨q, false⟩) (hl : q + widE k ≤ bs.length) : rdS bs s (k + 1) = ⟨q + widE k, false⟩ ∧ rdN bs s k = val ((bs.drop q).take (widE k)) := by
  refine ⟨?_, ?_⟩
  · show ((rdS bs s k).num bs (widE k)).2 = _
    rw [h, num_there hl]
  · unfold rdN
    rw [h, num_there hl]
/-- A member's bytes at a place are read. -/
theorem rd_back {bs : List UInt8} {p : Nat} {m : LM} (hm : m.B = true) (hs0 : 0 ≤ m.su) (hs1 : m.su < 4294967296) (h : (bs.drop p).take (18 + m.nm.size) = mbB m) : rdM bs ⟨p, false⟩ = m ∧ rdX bs ⟨p, false⟩ = (m.nm.data.toList, ⟨p + (18 + m.nm.size), false⟩) := by
  obtain ⟨hn0, hn1, hme0, hme1, hat0, hat1, har0, har1, hsz0, hsz1, hfr⟩ := memB_nums hm
  have hnl : m.nm.data.toList.length = m.nm.size := by rw [Array.length_toList]; rfl
  have hlen : p + (18 + m.nm.size) ≤ bs.length := by
    have := congrArg List.length h
    rw [mbB_length, List.length_take, List.length_drop] at this
    omega
  have hX : mbB m = putN m.me.toNat 1 ++ (putN m.nm.size 1 ++ (putN m.at_.toNat 4 ++ (putN m.sz.toNat 4 ++ (putN m.ar.toNat 4 ++ (putN m.su.toNat 4 ++ m.nm.data.toList))))) := by unfold mbB mbF; simp [List.append_assoc]
  have s0 : rdS bs ⟨p, false⟩ 0 = ⟨p, false⟩ := rfl
  have t0 := rd_step s0 (by show p + 0 + 1 ≤ _; omega)
  have s1 : rdS bs ⟨p, false⟩ 1 = ⟨p + 1, false⟩ := t0.1
  have n0 : rdN bs ⟨p, false⟩ 0 = val ((bs.drop (p + 0)).take 1) := t0.2
  clear t0
  have t1 := rd_step s1 (by show p + 1 + 1 ≤ _; omega)
  have s2 : rdS bs ⟨p, false⟩ 2 = ⟨p + 2, false⟩ := t1.1
  have n1 : rdN bs ⟨p, false⟩ 1 = val ((bs.drop (p + 1)).take 1) := t1.2
  clear t1
  have t2 := rd_step s2 (by show p + 2 + 4 ≤ _; omega)
  have s3 : rdS bs ⟨p, false⟩ 3 = ⟨p + 6, false⟩ := t2.1
  have n2 : rdN bs ⟨p, false⟩ 2 = val ((bs.drop (p + 2)).take 4) := t2.2
  clear t2
  have t3 := rd_step s3 (by show p + 6 + 4 ≤ _; omega)
  have s4 : rdS bs ⟨p, false⟩ 4 = ⟨p + 10, false⟩ := t3.1
  have n3 : rdN bs ⟨p, false⟩ 3 = val ((bs.drop (p + 6)).take 4) := t3.2
  clear t3
  have t4 := rd_step s4 (by show p + 10 + 4 ≤ _; omega)
  have s5 : rdS bs ⟨p, false⟩ 5 = ⟨p + 14, false⟩ := t4.1
  have n4 : rdN bs ⟨p, false⟩ 4 = val ((bs.drop (p + 10)).take 4) := t4.2
  clear t4
  have t5 := rd_step s5 (by show p + 14 + 4 ≤ _; omega)
  have s6 : rdS bs ⟨p, false⟩ 6 = ⟨p + 18, false⟩ := t5.1
  have n5 : rdN bs ⟨p, false⟩ 5 = val ((bs.drop (p + 14)).take 4) := t5.2
  clear t5
  have v0 : rdN bs ⟨p, false⟩ 0 = m.me.toNat := by
    have e : (bs.drop (p + 0)).take 1 = putN (m.me.toNat) 1 := by
      rw [cut_in h (by omega), hX]
      exact mid_of (l1 := []) (l2 := putN m.nm.size 1 ++ putN m.at_.toNat 4 ++ putN m.sz.toNat 4 ++ putN m.ar.toNat 4 ++ putN m.su.toNat 4 ++ m.nm.data.toList) (by simp [List.append_assoc]) rfl (putN_length _ _)
    rw [n0, e, val_put _ _ (by show _ < 256; omega)]
  have v1 : rdN bs ⟨p, false⟩ 1 = m.nm.size := by
    have e : (bs.drop (p + 1)).take 1 = putN (m.nm.size) 1 := by
      rw [cut_in h (by omega), hX]
      exact mid_of (l1 := putN m.me.toNat 1) (l2 := putN m.at_.toNat 4 ++ putN m.sz.toNat 4 ++ putN m.ar.toNat 4 ++ putN m.su.toNat 4 ++ m.nm.data.toList) (by simp [List.append_assoc]) (by simp [putN_length]) (putN_length _ _)
    rw [n1, e, val_put _ _ (by show _ < 256; omega)]
  have v2 : rdN bs ⟨p, false⟩ 2 = m.at_.toNat := by
    have e : (bs.drop (p + 2)).take 4 = putN (m.at_.toNat) 4 := by
      rw [cut_in h (by omega), hX]
      exact mid_of (l1 := putN m.me.toNat 1 ++ putN m.nm.size 1) (l2 := putN m.sz.toNat 4 ++ putN m.ar.toNat 4 ++ putN m.su.toNat 4 ++ m.nm.data.toList) (by simp [List.append_assoc]) (by simp [putN_length]) (putN_length _ _)
    rw [n2, e, val_put _ _ (by show _ < 4294967296; omega)]
  have v3 : rdN bs ⟨p, false⟩ 3 = m.sz.toNat := by
    have e : (bs.drop (p + 6)).take 4 = putN (m.sz.toNat) 4 := by
      rw [cut_in h (by omega), hX]
      exact mid_of (l1 := putN m.me.toNat 1 ++ putN m.nm.size 1 ++ putN m.at_.toNat 4) (l2 := putN m.ar.toNat 4 ++ putN m.su.toNat 4 ++ m.nm.data.toList) (by simp [List.append_assoc]) (by simp [putN_length]) (putN_length _ _)
    rw [n3, e, val_put _ _ (by show _ < 4294967296; omega)]
  have v4 : rdN bs ⟨p, false⟩ 4 = m.ar.toNat := by
    have e : (bs.drop (p + 10)).take 4 = putN (m.ar.toNat) 4 := by
      rw [cut_in h (by omega), hX]
      exact mid_of (l1 := putN m.me.toNat 1 ++ putN m.nm.size 1 ++ putN m.at_.toNat 4 ++ putN m.sz.toNat 4) (l2 := putN m.su.toNat 4 ++ m.nm.data.toList) (by simp [List.append_assoc]) (by simp [putN_length]) (putN_length _ _)
    rw [n4, e, val_put _ _ (by show _ < 4294967296; omega)]
  have v5 : rdN bs ⟨p, false⟩ 5 = m.su.toNat := by
    have e : (bs.drop (p + 14)).take 4 = putN (m.su.toNat) 4 := by
      rw [cut_in h (by omega), hX]
      exact mid_of (l1 := putN m.me.toNat 1 ++ putN m.nm.size 1 ++ putN m.at_.toNat 4 ++ putN m.sz.toNat 4 ++ putN m.ar.toNat 4) (l2 := m.nm.data.toList) (by simp [List.append_assoc]) (by simp [putN_length]) (putN_length _ _)
    rw [n5, e, val_put _ _ (by show _ < 4294967296; omega)]
  have hXX : rdX bs ⟨p, false⟩ = (m.nm.data.toList, ⟨p + (18 + m.nm.size), false⟩) := by
    unfold rdX
    rw [s6, v1]
    rw [row_there (by show p + 18 + m.nm.size ≤ _; omega)]
    have e : (bs.drop (p + 18)).take m.nm.size = m.nm.data.toList := by
      rw [cut_in h (Nat.le_refl _), hX]
      exact mid_of (l1 := putN m.me.toNat 1 ++ putN m.nm.size 1 ++ putN m.at_.toNat 4 ++ putN m.sz.toNat 4 ++ putN m.ar.toNat 4 ++ putN m.su.toNat 4) (l2 := []) (by simp [List.append_assoc]) (by simp [putN_length]) hnl
    exact Prod.ext e (congrArg (fun q => (⟨q, false⟩ : RSt)) (by show p + 18 + m.nm.size = _; omega))
  refine ⟨?_, hXX⟩
  unfold rdM
  rw [hXX, v0, v2, v3, v4, v5]
  obtain ⟨nm, at_, fr, ar, sz, su, me⟩ := m
  simp only [LM.mk.injEq] at *
  refine ⟨trivial, by omega, ?_, by omega, by omega, by omega, by omega⟩
  have : nm.data.toList.length = nm.size := hnl
  rw [this]
  omega
theorem dirB_cut {ms : List LM} {k : Nat} {m : LM} (h : ms[k]? = some m) : ((dirB ms).drop (rowsM (ms.take k))).take (18 + m.nm.size) = mbB m := by
  have e : dirB ms = dirB (ms.take k) ++ mbB m ++ dirB (ms.drop (k + 1)) := by
    have h1 : ms = ms.take k ++ m :: ms.drop (k + 1) := by
      obtain ⟨hk, rfl⟩ := List.getElem?_eq_some_iff.1 h
      rw [← List.drop_eq_getElem_cons hk, List.take_append_drop]
    unfold dirB
    conv => lhs; rw [h1]
    simp
  exact mid_of e (dirB_length _) (mbB_length m)
theorem tk_upto {ms : List LM} (ha : allB ms = true) (hok : ∀ m ∈ ms, m.Ok) : ∀ k, k ≤ ms.length → rdK (dirB ms) ⟨0, false⟩ k = ⟨rowsM (ms.take k), false⟩ ∧ rdL (dirB ms) ⟨0, false⟩ k = ms.take k
  | 0, _ => ⟨rfl, by simp [rdL]⟩
  | k + 1, hk => by
    obtain ⟨h1, h2⟩ := tk_upto ha hok k (by omega)
    have hx : ms[k]? = some (ms[k]'(by omega)) := List.getElem?_eq_getElem _
    generalize ms[k]'(by omega) = m at hx
    obtain ⟨_, _, _, h3, h4⟩ := hok m (List.mem_of_getElem? hx)
    obtain ⟨b1, b2⟩ := rd_back (goodTo_at (allB_true.1 ha).2 (by omega) hx) h3 h4 (dirB_cut hx)
    refine ⟨?_, ?_⟩
    · rw [rdK, h1, b2, rowsM_take hx]
    · rw [rdL, h1, h2, b1, List.take_add_one, hx]
      rfl
/-- What was put is taken. -/
theorem tk_back {ms : List LM} (ha : allB ms = true) (hok : ∀ m ∈ ms, m.Ok) : tkR (dirB ms) ms.length = 0 ∧ rdL (dirB ms) ⟨0, false⟩ ms.length = ms := by
  obtain ⟨h1, h2⟩ := tk_upto ha hok ms.length (Nat.le_refl _)
  rw [List.take_length] at h1 h2
  refine ⟨?_, h2⟩
  unfold tkR
  rw [h1, h2, if_neg (by simp), if_neg (by rw [dirB_length]; simp), if_pos ha]
end Go.Proofs.YtjoifgeljjgflaaDoor
