/- Layers 19, 20, plainly: what was taken is put as it was; whole directories. -/
import Derived.Test.YthnoobhjkhafcaaDoorFtRw
import Derived.Test.YthnoobhjkhafcaaDoorCrcRes
namespace Go.Proofs.YthnoobhjkhafcaaDoor
open Go.RowKit CrcP FieldP

theorem putN_cut {bs : List UInt8} {p k : Nat} (h : p + k ≤ bs.length) : putN (val ((bs.drop p).take k)) k = (bs.drop p).take k := by
  have hl : ((bs.drop p).take k).length = k := by rw [List.length_take, List.length_drop]; omega
  have := putN_val ((bs.drop p).take k)
  rwa [hl] at this
theorem rst_of {s : RSt} {q : Nat} (h1 : s.p = q) (h2 : s.bad = false) : s = ⟨q, false⟩ := by cases s; subst h1; subst h2; rfl
theorem rd_taken {bs : List UInt8} {s : RSt} (hb : (rdX bs s).2.bad = false) :
    s.bad = false ∧ s.p + (18 + (rdM bs s).nm.size) ≤ bs.length ∧ mbB (rdM bs s) = (bs.drop s.p).take (18 + (rdM bs s).nm.size) ∧ rdX bs s = ((rdX bs s).1, ⟨s.p + (18 + (rdM bs s).nm.size), false⟩) := by
  obtain ⟨p, bad⟩ := s
  obtain ⟨g6, l6, q6⟩ := row_good (s := rdS bs ⟨p, bad⟩ 6) (k := rdN bs ⟨p, bad⟩ 1) hb
  obtain ⟨g5, l5, q5⟩ := num_good (s := rdS bs ⟨p, bad⟩ 5) (k := widE 5) g6
  obtain ⟨g4, l4, q4⟩ := num_good (s := rdS bs ⟨p, bad⟩ 4) (k := widE 4) g5
  obtain ⟨g3, l3, q3⟩ := num_good (s := rdS bs ⟨p, bad⟩ 3) (k := widE 3) g4
  obtain ⟨g2, l2, q2⟩ := num_good (s := rdS bs ⟨p, bad⟩ 2) (k := widE 2) g3
  obtain ⟨g1, l1, q1⟩ := num_good (s := rdS bs ⟨p, bad⟩ 1) (k := widE 1) g2
  obtain ⟨g0, l0, q0⟩ := num_good (s := rdS bs ⟨p, bad⟩ 0) (k := widE 0) g1
  have hbad : bad = false := g0
  subst hbad
  have w0 : widE 0 = 1 := rfl
  have w1 : widE 1 = 1 := rfl
  have w2 : widE 2 = 4 := rfl
  have w3 : widE 3 = 4 := rfl
  have w4 : widE 4 = 4 := rfl
  have w5 : widE 5 = 4 := rfl
  have p0 : (rdS bs ⟨p, false⟩ 0).p = p := rfl
  have p1 : (rdS bs ⟨p, false⟩ 1).p = p + 1 := by have : (rdS bs ⟨p, false⟩ 1).p = (rdS bs ⟨p, false⟩ 0).p + widE 0 := q0; omega
  have p2 : (rdS bs ⟨p, false⟩ 2).p = p + 2 := by have : (rdS bs ⟨p, false⟩ 2).p = (rdS bs ⟨p, false⟩ 1).p + widE 1 := q1; omega
  have p3 : (rdS bs ⟨p, false⟩ 3).p = p + 6 := by have : (rdS bs ⟨p, false⟩ 3).p = (rdS bs ⟨p, false⟩ 2).p + widE 2 := q2; omega
  have p4 : (rdS bs ⟨p, false⟩ 4).p = p + 10 := by have : (rdS bs ⟨p, false⟩ 4).p = (rdS bs ⟨p, false⟩ 3).p + widE 3 := q3; omega
  have p5 : (rdS bs ⟨p, false⟩ 5).p = p + 14 := by have : (rdS bs ⟨p, false⟩ 5).p = (rdS bs ⟨p, false⟩ 4).p + widE 4 := q4; omega
  have p6 : (rdS bs ⟨p, false⟩ 6).p = p + 18 := by have : (rdS bs ⟨p, false⟩ 6).p = (rdS bs ⟨p, false⟩ 5).p + widE 5 := q5; omega
  have p7 : (rdX bs ⟨p, false⟩).2.p = p + 18 + rdN bs ⟨p, false⟩ 1 := by have : (rdX bs ⟨p, false⟩).2.p = (rdS bs ⟨p, false⟩ 6).p + rdN bs ⟨p, false⟩ 1 := q6; omega
  have n0 : rdN bs ⟨p, false⟩ 0 = val ((bs.drop (p + 0)).take 1) := (rd_step (rst_of (q := p + 0) (by omega) g0) (by omega)).2
  have n1 : rdN bs ⟨p, false⟩ 1 = val ((bs.drop (p + 1)).take 1) := (rd_step (rst_of (q := p + 1) (by omega) g1) (by omega)).2
  have n2 : rdN bs ⟨p, false⟩ 2 = val ((bs.drop (p + 2)).take 4) := (rd_step (rst_of (q := p + 2) (by omega) g2) (by omega)).2
  have n3 : rdN bs ⟨p, false⟩ 3 = val ((bs.drop (p + 6)).take 4) := (rd_step (rst_of (q := p + 6) (by omega) g3) (by omega)).2
  have n4 : rdN bs ⟨p, false⟩ 4 = val ((bs.drop (p + 10)).take 4) := (rd_step (rst_of (q := p + 10) (by omega) g4) (by omega)).2
  have n5 : rdN bs ⟨p, false⟩ 5 = val ((bs.drop (p + 14)).take 4) := (rd_step (rst_of (q := p + 14) (by omega) g5) (by omega)).2
  have hX : rdX bs ⟨p, false⟩ = ((bs.drop (p + 18)).take (rdN bs ⟨p, false⟩ 1), ⟨p + 18 + rdN bs ⟨p, false⟩ 1, false⟩) := by
    unfold rdX
    rw [rst_of p6 g6]
    exact row_there (by omega)
  have hXl : (rdX bs ⟨p, false⟩).1.length = rdN bs ⟨p, false⟩ 1 := by rw [hX]; show ((bs.drop (p + 18)).take _).length = _; rw [List.length_take, List.length_drop]; omega
  have hnm : (rdM bs ⟨p, false⟩).nm.size = rdN bs ⟨p, false⟩ 1 := by
    show (rdX bs ⟨p, false⟩).1.toArray.size = _
    rw [List.size_toArray, hXl]
  have hnd : (rdM bs ⟨p, false⟩).nm.data.toList = (bs.drop (p + 18)).take (rdN bs ⟨p, false⟩ 1) := by
    show (rdX bs ⟨p, false⟩).1 = _
    rw [hX]
  rw [hnm]
  refine ⟨rfl, by show p + (18 + rdN bs ⟨p, false⟩ 1) ≤ _; omega, ?_, by rw [hX]; exact Prod.ext rfl (congrArg (fun q => (⟨q, false⟩ : RSt)) (by show p + 18 + rdN bs ⟨p, false⟩ 1 = p + (18 + rdN bs ⟨p, false⟩ 1); omega))⟩
  have e0 : putN ((rdM bs ⟨p, false⟩).me.toNat) 1 = (bs.drop (p + 0)).take 1 := by
    rw [show (rdM bs ⟨p, false⟩).me.toNat = rdN bs ⟨p, false⟩ 0 from Int.toNat_natCast _, n0]
    exact putN_cut (by omega)
  have e1 : putN (rdN bs ⟨p, false⟩ 1) 1 = (bs.drop (p + 1)).take 1 := by
    rw [show rdN bs ⟨p, false⟩ 1 = rdN bs ⟨p, false⟩ 1 from rfl, n1]
    exact putN_cut (by omega)
  have e2 : putN ((rdM bs ⟨p, false⟩).at_.toNat) 4 = (bs.drop (p + 2)).take 4 := by
    rw [show (rdM bs ⟨p, false⟩).at_.toNat = rdN bs ⟨p, false⟩ 2 from Int.toNat_natCast _, n2]
    exact putN_cut (by omega)
  have e3 : putN ((rdM bs ⟨p, false⟩).sz.toNat) 4 = (bs.drop (p + 6)).take 4 := by
    rw [show (rdM bs ⟨p, false⟩).sz.toNat = rdN bs ⟨p, false⟩ 3 from Int.toNat_natCast _, n3]
    exact putN_cut (by omega)
  have e4 : putN ((rdM bs ⟨p, false⟩).ar.toNat) 4 = (bs.drop (p + 10)).take 4 := by
    rw [show (rdM bs ⟨p, false⟩).ar.toNat = rdN bs ⟨p, false⟩ 4 from Int.toNat_natCast _, n4]
    exact putN_cut (by omega)
  have e5 : putN ((rdM bs ⟨p, false⟩).su.toNat) 4 = (bs.drop (p + 14)).take 4 := by
    rw [show (rdM bs ⟨p, false⟩).su.toNat = rdN bs ⟨p, false⟩ 5 from Int.toNat_natCast _, n5]
    exact putN_cut (by omega)
  have t : ∀ a b, (bs.drop p).take (a + b) = (bs.drop p).take a ++ (bs.drop (p + a)).take b := fun a b => by rw [List.take_add, List.drop_drop]
  show putN (rdM bs ⟨p, false⟩).me.toNat 1 ++ putN (rdM bs ⟨p, false⟩).nm.size 1 ++ putN (rdM bs ⟨p, false⟩).at_.toNat 4 ++ putN (rdM bs ⟨p, false⟩).sz.toNat 4 ++ putN (rdM bs ⟨p, false⟩).ar.toNat 4 ++ putN (rdM bs ⟨p, false⟩).su.toNat 4 ++ (rdM bs ⟨p, false⟩).nm.data.toList = (bs.drop p).take (18 + rdN bs ⟨p, false⟩ 1)
  rw [hnm, hnd, e0, e1, e2, e3, e4, e5]
  have t0 : (bs.drop (p + 0)).take 1 = (bs.drop p).take 1 := rfl
  rw [t0, ← t 1 1, ← t 2 4, ← t 6 4, ← t 10 4, ← t 14 4, ← t 18]
theorem tk_parts {bs : List UInt8} : ∀ n, (rdK bs ⟨0, false⟩ n).bad = false → rdK bs ⟨0, false⟩ n = ⟨rowsM (rdL bs ⟨0, false⟩ n), false⟩ ∧ dirB (rdL bs ⟨0, false⟩ n) = bs.take (rowsM (rdL bs ⟨0, false⟩ n)) ∧ rowsM (rdL bs ⟨0, false⟩ n) ≤ bs.length
  | 0, _ => ⟨rfl, by simp [rdL, dirB, rowsM], Nat.zero_le _⟩
  | n + 1, h => by
    obtain ⟨h1, h2, h3, h4⟩ := rd_taken (s := rdK bs ⟨0, false⟩ n) h
    obtain ⟨i1, i2, i3⟩ := tk_parts n h1
    have hr : rowsM (rdL bs ⟨0, false⟩ (n + 1)) = rowsM (rdL bs ⟨0, false⟩ n) + (18 + (rdM bs (rdK bs ⟨0, false⟩ n)).nm.size) := by
      unfold rowsM
      rw [rdL, List.map_append, List.sum_append]
      simp
    have hd : dirB (rdL bs ⟨0, false⟩ (n + 1)) = dirB (rdL bs ⟨0, false⟩ n) ++ mbB (rdM bs (rdK bs ⟨0, false⟩ n)) := by
      unfold dirB
      rw [rdL, List.map_append, List.flatten_append]
      simp
    have hp : (rdK bs ⟨0, false⟩ n).p = rowsM (rdL bs ⟨0, false⟩ n) := by rw [i1]
    rw [hp] at h2 h3 h4
    refine ⟨?_, ?_, by rw [hr]; exact h2⟩
    · rw [hr]
      show (rdX bs (rdK bs ⟨0, false⟩ n)).2 = _
      rw [h4]
    · rw [hd, hr, i2, h3]
      exact List.take_add.symm
/-- What was taken is put as it was. -/
theorem tk_taken {bs : List UInt8} {n : Nat} (h : tkR bs n = 0) : allB (rdL bs ⟨0, false⟩ n) = true ∧ dirB (rdL bs ⟨0, false⟩ n) = bs ∧ rowsM (rdL bs ⟨0, false⟩ n) = bs.length := by
  unfold tkR at h
  split at h
  · cases h
  rename_i h1
  split at h
  · cases h
  rename_i h2
  split at h
  · rename_i h3
    obtain ⟨i1, i2, i3⟩ := tk_parts n (by simpa using h1)
    rw [i1] at h2
    have h2' : ¬ rowsM (rdL bs ⟨0, false⟩ n) < bs.length := h2
    have hr : rowsM (rdL bs ⟨0, false⟩ n) = bs.length := by omega
    refine ⟨h3, ?_, hr⟩
    rw [i2, hr, List.take_length]
  · cases h
theorem footB_length' (a b c : Nat) : (footB (a : Int) (b : Int) (c : Int)).length = 20 := threeB_length _ _ _ _ rfl
theorem footAll_length (ms : List LM) : (footAll ms).length = rowsM ms + 20 := by unfold footAll; rw [List.length_append, footB_length', dirB_length]
/-- What was written is read. -/
theorem foot_back {ms : List LM} (ha : allB ms = true) (hok : ∀ m ∈ ms, m.Ok) : rdR (footAll ms) = 0 ∧ ftN (footAll ms) 0 = ms.length ∧ rdL ((footAll ms).take ((footAll ms).length - 20)) ⟨0, false⟩ ms.length = ms := by
  obtain ⟨hs1, hs2⟩ := dir_small ha
  have hrow := rowsM_le hs2
  have hrows : rowsM ms ≤ 16400 := by
    have : ms.length * (18 + 64) ≤ 200 * 82 := Nat.mul_le_mul hs1 (Nat.le_refl _)
    omega
  have hL := footAll_length ms
  have hp : (footAll ms).length - 20 = rowsM ms := by omega
  have htk : (footAll ms).take (rowsM ms) = dirB ms := by
    have := dirB_length ms
    unfold footAll
    rw [← this, List.take_left]
  have hdr : ((footAll ms).drop (rowsM ms)).take 20 = footB (ms.length : Int) (rowsM ms : Int) (sumN (dirB ms) : Int) := by
    have := dirB_length ms
    unfold footAll
    rw [← this, List.drop_left, this, List.take_of_length_le (by rw [footB_length']; omega)]
  have hslt := sumN_lt (dirB ms)
  obtain ⟨_, h2, h3, h4, h5, h6⟩ := three_back (bs := footAll ms) (mk := footBytes) (p := rowsM ms) (a := ms.length) (b := rowsM ms) (c := sumN (dirB ms)) rfl (by omega) (by omega) hslt hdr
  have hi : isB footBytes (footAll ms) (rowsM ms : Nat) = true := by
    have := isB_in (mk := footBytes) (bs := footAll ms) (p := rowsM ms) (by rw [hL]; show rowsM ms + 4 ≤ _; omega)
    rw [this]
    exact decide_eq_true h2
  have e0 : ftN (footAll ms) 0 = ms.length := by unfold ftN; rw [hp]; exact h4
  have e1 : ftN (footAll ms) 1 = rowsM ms := by unfold ftN; rw [hp]; exact h5
  have e2 : ftN (footAll ms) 2 = sumN (dirB ms) := by unfold ftN; rw [hp]; exact h6
  obtain ⟨k1, k2⟩ := tk_back ha hok
  have hf : ftR (footAll ms) = 0 := by
    unfold ftR
    rw [if_neg (by omega), hp, hi, if_neg (by decide), h3, if_neg (by simp), e0, e1, ftB_of hs1 hrows]
    rfl
  refine ⟨?_, e0, ?_⟩
  · unfold rdR
    rw [hf, if_neg (by simp), e1, hp, if_neg (by simp), e2, htk, if_neg (by simp), e0]
    exact k1
  · rw [hp, htk]
    exact k2
/-- What was read is written as it was. -/
theorem foot_taken {bs : List UInt8} (h : rdR bs = 0) : allB (rdL (bs.take (bs.length - 20)) ⟨0, false⟩ (ftN bs 0)) = true ∧ footAll (rdL (bs.take (bs.length - 20)) ⟨0, false⟩ (ftN bs 0)) = bs := by
  unfold rdR at h
  split at h
  · rename_i h1; exact absurd h h1
  rename_i h1
  have h1 : ftR bs = 0 := by simpa using h1
  split at h
  · cases h
  rename_i h2
  have h2 : ftN bs 1 = bs.length - 20 := by simpa using h2
  split at h
  · cases h
  rename_i h3
  have h3 : ftN bs 2 = sumN (bs.take (bs.length - 20)) := by simpa using h3
  obtain ⟨g20, gi, g3, _⟩ := ftR_good h1
  obtain ⟨k1, k2, k3⟩ := tk_taken h
  refine ⟨k1, ?_⟩
  obtain ⟨p, hp⟩ : ∃ p, bs.length - 20 = p := ⟨_, rfl⟩
  rw [hp] at h2 h3 gi g3 k2 k3 ⊢
  unfold footAll
  rw [k2, rdL_length, k3]
  have hlt : (bs.take p).length = p := by rw [List.length_take]; omega
  rw [hlt]
  have hF : bs.drop p = footB (ftN bs 0 : Int) (p : Int) (sumN (bs.take p) : Int) := by
    have hl : (bs.drop p).length = 20 := by rw [List.length_drop]; omega
    have hM : (bs.drop p).take 4 = footBytes := by
      rw [isB_in (by show p + 4 ≤ _; omega)] at gi
      exact of_decide_eq_true gi
    have hv : ∀ k, k < 3 → ftN bs k = val ((bs.drop (p + 4 + 4 * k)).take 4) := fun k hk => by unfold ftN; rw [hp]; exact three_va (by omega) hk
    have hS : val ((bs.drop (p + 16)).take 4) = sumN ((bs.drop p).take 16) := by
      rw [three_there (by omega)] at g3
      split at g3
      · assumption
      · cases g3
    have e0 : putN (ftN bs 0) 4 = (bs.drop (p + 4)).take 4 := by rw [hv 0 (by omega)]; exact putN_cut (by omega)
    have e1 : putN p 4 = (bs.drop (p + 8)).take 4 := (congrArg (putN · 4) (h2.symm.trans (hv 1 (by omega)))).trans (putN_cut (by omega))
    have e2 : putN (sumN (bs.take p)) 4 = (bs.drop (p + 12)).take 4 := (congrArg (putN · 4) (h3.symm.trans (hv 2 (by omega)))).trans (putN_cut (by omega))
    have t : ∀ a b, (bs.drop p).take (a + b) = (bs.drop p).take a ++ (bs.drop (p + a)).take b := fun a b => by rw [List.take_add, List.drop_drop]
    have hbody : (bs.drop p).take 16 = footBytes ++ putN (ftN bs 0) 4 ++ putN p 4 ++ putN (sumN (bs.take p)) 4 := by
      rw [e0, e1, e2, ← hM, ← t 4 4, ← t 8 4, ← t 12 4]
    have hs := sealed_of (cs := bs.drop p) (k := 16) hl (by rw [List.drop_drop]; exact hS)
    rw [hs, hbody]
    rfl
  rw [← hF, List.take_append_drop]
end Go.Proofs.YthnoobhjkhafcaaDoor
