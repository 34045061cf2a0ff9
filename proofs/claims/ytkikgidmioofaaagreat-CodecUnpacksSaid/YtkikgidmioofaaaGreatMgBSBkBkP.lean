/- Layer 13, plainly: what is put is taken. -/
import Derived.Test.YtkikgidmioofaaaGreatMgBSBkTkP
import Derived.Test.YtkikgidmioofaaaGreatMgB49
import Derived.Test.YtkikgidmioofaaaGreatMgB30
namespace Go.Proofs.YtkikgidmioofaaaGreat
open BitsP SymP

theorem clsF_back {F : List Int → List Bool → Int × Int × Nat} (hF : FunT F) {ws : List Nat} (hl : ws.length ≤ 320) {c : Nat × Nat × Nat} {x zr : Nat} (hx : ws[c.1]? = some x) (h0 : 0 < x) (hw : c.2.1 = wdF zr c.1) (hc : c.2.2 < 2 ^ c.2.1) {L R : List Bool} {p : Nat} (hd : L.drop p = clsB (zN (lensW ws)) c ++ R) :
    clsF F (zN (lensW ws)) zr L p = (0, c, (clsB (zN (lensW ws)) c).length) := by
  obtain ⟨s, nb, ex⟩ := c
  dsimp only at hx hw hc
  obtain ⟨n, v, k, hy, _, hs, _, _⟩ := lensW_sym hl hx h0
  have hr := lensW_caR hl hx h0
  obtain ⟨m, hm⟩ := caR_max hr
  have hB : clsB (zN (lensW ws)) (s, nb, ex) = codeB v n ++ bitsOf ex nb := by unfold clsB; rw [hs]
  have hcl : (codeB v n).length = n := codeB_len v n
  rw [hB, List.append_assoc] at hd
  have ht1 : (L.drop p).take n = codeB v n := by rw [hd, List.take_append_of_le_length (by rw [hcl]; exact Nat.le_refl _), List.take_of_length_le (by rw [hcl]; exact Nat.le_refl _)]
  have hd2 := drop_more hd
  rw [hcl] at hd2
  have hUl : n + nb ≤ (L.drop p).length := by rw [hd, List.length_append, List.length_append, hcl, bitsOf_length]; omega
  have hf : F (zN (lensW ws)) (L.drop p) = ((s : Int), 0, n) := hF _ _ _ _ _ m hm (.inl ⟨s, v, k, hy, by omega, by rw [ht1, hiN_code (hy.lt hr)], rfl, rfl⟩)
  rw [List.length_drop] at hUl
  have hn1 := hy.one
  have hxx := numA_bits hd2 hc
  unfold clsF
  rw [hf]
  dsimp only
  rw [if_neg (by simp), Int.toNat_natCast, ← hw, if_neg (by omega), hxx, hB, List.length_append, hcl, bitsOf_length]
/-- Tokens that may be taken, where so many bytes are there, and one may have so many. -/
def goodT (most : Int) : List Tk → Nat → Prop
  | [], _ => True
  | t :: ts, size => okT t ∧ t.2.2 ≤ size ∧ ((size + max t.2.1 1 : Nat) : Int) ≤ most ∧ goodT most ts (size + max t.2.1 1)
theorem wd1 {t : Tk} (h : okT t) : (cls1 t).2.1 = wdF 257 (cls1 t).1 := by
  unfold cls1
  rcases h with ⟨h1, h2⟩ | ⟨h1, h2, h3, h4, _⟩
  · rw [if_pos h1]
    have := t.1.toNat_lt
    dsimp only
    rw [wdF, if_neg (by omega)]
  · rw [if_neg (by omega)]
    have hc := (class_is (t.2.1 - 3) (by omega)).1
    dsimp only
    rw [wdF, if_pos (by omega), Nat.add_sub_cancel]
theorem wd2 {t : Tk} (h : okT t) (hm : isM t = true) : (cls2 t).2.1 = wdF 0 (cls2 t).1 := by
  unfold isM at hm
  have hne : t.2.1 ≠ 0 := of_decide_eq_true hm
  unfold cls2
  rcases h with ⟨h1, h2⟩ | ⟨h1, h2, h3, h4, _⟩
  · exact absurd h1 hne
  · rw [if_neg hne]
    have hc := (class_is (t.2.2 - 1) (by omega)).1
    dsimp only
    rw [wdF, if_pos ⟨Nat.zero_le _, by omega⟩, Nat.sub_zero]
/-- What is split is joined. -/
theorem joinR_back {t : Tk} (h : okT t) : (if 256 < (cls1 t).1 then joinR ((cls1 t).1 : Nat) ((cls1 t).2.1 : Nat) (cls1 t).2.2 ((cls2 t).1 : Nat) ((cls2 t).2.1 : Nat) (cls2 t).2.2 true else joinR ((cls1 t).1 : Nat) ((cls1 t).2.1 : Nat) (cls1 t).2.2 0 0 0 false) = some (t.1.toNat, t.2.1, t.2.2) ∧ (256 < (cls1 t).1 ↔ isM t = true) ∧ (cls1 t).1 ≠ 256 := by
  obtain ⟨y, l, d⟩ := t
  rcases h with ⟨h1, h2⟩ | ⟨h1, h2, h3, h4, h5⟩
  · dsimp only at h1 h2
    subst h1 h2
    have e1 : cls1 (y, 0, 0) = (y.toNat, 0, 0) := by unfold cls1; rw [if_pos rfl]
    have hy := y.toNat_lt
    rw [e1]
    dsimp only
    refine ⟨?_, ?_, by omega⟩
    · rw [if_neg (by omega)]
      unfold joinR
      rw [if_pos rfl, if_pos ⟨by omega, by omega, rfl, rfl, rfl, rfl, rfl⟩, Int.toNat_natCast]
    · unfold isM
      simp
      omega
  · dsimp only at h1 h2 h3 h4 h5
    subst h5
    obtain ⟨l', rfl⟩ : ∃ l', l = l' + 3 := ⟨l - 3, by omega⟩
    obtain ⟨d', rfl⟩ : ∃ d', d = d' + 1 := ⟨d - 1, by omega⟩
    have e1 : cls1 (0, l' + 3, d' + 1) = (classC l' + 257, bitsC (classC l'), l' % 2 ^ bitsC (classC l')) := by unfold cls1; rw [if_neg (by dsimp only; omega)]; rfl
    have e2 : cls2 (0, l' + 3, d' + 1) = (classC d', bitsC (classC d'), d' % 2 ^ bitsC (classC d')) := by unfold cls2; rw [if_neg (by dsimp only; omega)]; rfl
    have hc := (class_is l' (by omega)).1
    have hm := class_mono (v := l') (w := 255) (by omega) (by omega)
    have h255 : classC 255 = 15 := by decide
    rw [e1, e2]
    dsimp only
    refine ⟨?_, ?_, by omega⟩
    · rw [if_pos (by omega)]
      have v1 := valC_class (v := l') (by omega)
      have v2 := valC_class (v := d') (by omega)
      have e3 : ((classC l' + 257 : Nat) : Int) - 257 = (classC l' : Nat) := by omega
      unfold joinR
      rw [if_neg (by simp), e3, if_pos ⟨by omega, by omega, by rw [v1]; rfl, by rw [v2]; rfl⟩]
      unfold vN
      rw [v1, v2]
      rfl
    · unfold isM
      simp
theorem tokB_parts {z1 z2 : List Int} {t : Tk} {ts : List Tk} : toksB z1 z2 (t :: ts) = clsB z1 (cls1 t) ++ ((if isM t then clsB z2 (cls2 t) else []) ++ toksB z1 z2 ts) := by
  show tokB z1 z2 t ++ toksB z1 z2 ts = _
  unfold tokB
  rw [List.append_assoc]
theorem blkL_back {F : List Int → List Bool → Int × Int × Nat} (hF : FunT F) {al : List Tk} {most : Int} {L R : List Bool} : ∀ (k : Nat) (pre ts : List Tk) (size p : Nat), al = pre ++ ts → ts.length < k → (∀ t ∈ ts, okT t) → goodT most ts size →
    L.drop p = toksB (zN (lensW (wt1 al))) (zN (lensW (wt2 al))) ts ++ (symB (zN (lensW (wt1 al))) 256 ++ R) →
    blkL F (zN (lensW (wt1 al))) (zN (lensW (wt2 al))) L most k pre size p = (0, al, p + (toksB (zN (lensW (wt1 al))) (zN (lensW (wt2 al))) ts).length + (symB (zN (lensW (wt1 al))) 256).length)
  | 0, pre, ts, size, p, _, hk, _, _, _ => by omega
  | k + 1, pre, [], size, p, ha, _, _, _, hd => by
    rw [List.append_nil] at ha
    subst ha
    obtain ⟨x, hx, h0⟩ := wt1_end al
    have e : clsB (zN (lensW (wt1 al))) (256, 0, 0) = symB (zN (lensW (wt1 al))) 256 := by unfold clsB; simp [bitsOf]
    have hd2 : L.drop p = clsB (zN (lensW (wt1 al))) (256, 0, 0) ++ R := by rw [hd, e]; rfl
    have hc := clsF_back hF (by rw [wt1_len]; omega) (c := (256, 0, 0)) (zr := 257) hx h0 (by rw [wdF, if_neg (by omega)]) (by decide) hd2
    rw [blkL, hc]
    dsimp only
    rw [if_neg (by simp), if_pos rfl, e]
    rfl
  | k + 1, pre, t :: ts, size, p, ha, hk, hok, hg, hd => by
    have h1 := hok t List.mem_cons_self
    have hin : t ∈ al := by rw [ha]; simp
    obtain ⟨_, hdist, hmost, hg2⟩ := hg
    obtain ⟨hj, hiff, hne⟩ := joinR_back h1
    obtain ⟨x, hx, h0⟩ := wt1_has hin h1
    rw [tokB_parts, List.append_assoc] at hd
    have hc := clsF_back hF (by rw [wt1_len]; omega) (c := cls1 t) (zr := 257) hx h0 (wd1 h1) (cls1_lt h1).2.2 hd
    have hd2 := drop_more hd
    have hy : UInt8.ofNat t.1.toNat = t.1 := by simp
    have ih := fun p' hd' => blkL_back hF (al := al) (most := most) (L := L) (R := R) k (pre ++ [t]) ts (size + max t.2.1 1) p' (by rw [ha]; simp) (by simp at hk; omega) (fun x hx => hok x (List.mem_cons_of_mem _ hx)) hg2 hd'
    by_cases hm : isM t = true
    · have h256 := hiff.2 hm
      obtain ⟨x2, hx2, h02⟩ := wt2_has hin h1 hm
      rw [if_pos hm, List.append_assoc] at hd2
      have hc2 := clsF_back hF (by rw [wt2_len]; omega) (c := cls2 t) (zr := 0) hx2 h02 (wd2 h1 hm) (cls2_lt h1).2.2 hd2
      have hd3 := drop_more hd2
      rw [if_pos h256] at hj
      rw [blkL, hc]
      dsimp only
      rw [if_neg (by simp), if_neg hne, hc2]
      dsimp only
      rw [if_neg (by simp), if_pos h256, if_pos h256, hj]
      dsimp only
      rw [if_neg (by omega), if_neg (by omega), hy, ih _ hd3, tokB_parts, if_pos hm, List.length_append, List.length_append]
      congr 2
      omega
    · have h256 : ¬ 256 < (cls1 t).1 := fun h => hm (hiff.1 h)
      rw [if_neg hm, List.nil_append] at hd2
      rw [if_neg h256] at hj
      rw [blkL, hc]
      dsimp only
      rw [if_neg (by simp), if_neg hne, if_neg (fun h => h256 h.1), if_neg h256, if_neg h256, hj, Nat.add_zero]
      dsimp only
      rw [if_neg (by omega), if_neg (by omega), hy, ih _ hd2, tokB_parts, if_neg hm, List.length_append, List.nil_append]
      congr 2
      omega
theorem lensW_le {ws : List Nat} (hl : ws.length ≤ 320) : ∀ y ∈ lensW ws, y ≤ 15 := fun y hy => by
  obtain ⟨k, hk⟩ := List.mem_iff_getElem?.1 hy
  have hkl := (List.getElem?_eq_some_iff.1 hk).1
  rw [lensW_len] at hkl
  have h2 := (lensW_pos (ns := ws) (by omega) (List.getElem?_eq_getElem hkl)).2
  rw [List.getD, hk] at h2
  exact h2
theorem toksB_ge {al : List Tk} : ∀ ts : List Tk, (∀ t ∈ ts, t ∈ al ∧ okT t) → ts.length ≤ (toksB (zN (lensW (wt1 al))) (zN (lensW (wt2 al))) ts).length
  | [], _ => Nat.zero_le _
  | t :: ts, h => by
    obtain ⟨hin, h1⟩ := h t List.mem_cons_self
    obtain ⟨x, hx, h0⟩ := wt1_has hin h1
    obtain ⟨n, v, k, hy, _, hs, _, _⟩ := lensW_sym (by rw [wt1_len]; omega) hx h0
    have hn := hy.one
    have ih := toksB_ge ts (fun t ht => h t (List.mem_cons_of_mem _ ht))
    have hc : 1 ≤ (clsB (zN (lensW (wt1 al))) (cls1 t)).length := by
      unfold clsB
      rw [hs, List.length_append, codeB_len]
      omega
    rw [tokB_parts, List.length_append, List.length_append, List.length_cons]
    omega
theorem blkF_back {F : List Int → List Bool → Int × Int × Nat} (hF : FunT F) {ts : List Tk} (hok : ∀ t ∈ ts, okT t) {most : Int} (hg : goodT most ts 0) {L R : List Bool} {p : Nat} (hd : L.drop p = blkB ts ++ R) : blkF F L p most = (0, ts, p + (blkB ts).length) := by
  have hl1 : (lensW (wt1 ts)).length = 273 := by rw [lensW_len, wt1_len]
  have hl2 : (lensW (wt2 ts)).length = 30 := by rw [lensW_len, wt2_len]
  have hr1 : caR (zN (lensW (wt1 ts))) = true := by
    obtain ⟨x, hx, h0⟩ := wt1_end ts
    exact lensW_caR (by rw [wt1_len]; omega) hx h0
  have hr2 : caR (zN (lensW (wt2 ts))) = true := by
    obtain ⟨s, x, hx, h0⟩ := wt2_some ts hok
    exact lensW_caR (by rw [wt2_len]; omega) hx h0
  have hB : blkB ts = tabP (lensW (wt1 ts)) ++ (tabP (lensW (wt2 ts)) ++ (toksB (zN (lensW (wt1 ts))) (zN (lensW (wt2 ts))) ts ++ symB (zN (lensW (wt1 ts))) 256)) := by unfold blkB; simp only [List.append_assoc]
  rw [hB] at hd ⊢
  simp only [List.append_assoc] at hd
  have ht1 := tkF_back hF (by rw [hl1]; omega) (by rw [hl1]; omega) (lensW_le (by rw [wt1_len]; omega)) hd
  have hd2 := drop_more hd
  have ht2 := tkF_back hF (by rw [hl2]; omega) (by rw [hl2]; omega) (lensW_le (by rw [wt2_len]; omega)) hd2
  have hd3 := drop_more hd2
  have hge := toksB_ge (al := ts) ts (fun t ht => ⟨ht, hok t ht⟩)
  have hlen := congrArg List.length hd3
  rw [List.length_drop, List.length_append, List.length_append] at hlen
  have hs1 : 1 ≤ (symB (zN (lensW (wt1 ts))) 256).length := by
    obtain ⟨x, hx, h0⟩ := wt1_end ts
    obtain ⟨n, v, k, hy, _, hs, _, _⟩ := lensW_sym (by rw [wt1_len]; omega) hx h0
    have h2 : symB (zN (lensW (wt1 ts))) 256 = codeB v n := hs
    rw [h2, codeB_len]
    exact hy.one
  have hbl := blkL_back hF (al := ts) (most := most) (L := L) (R := R) (L.length + 1 - (p + (tabP (lensW (wt1 ts))).length + (tabP (lensW (wt2 ts))).length)) [] ts 0 (p + (tabP (lensW (wt1 ts))).length + (tabP (lensW (wt2 ts))).length) rfl (by omega) hok hg hd3
  have hz1 : ((lensW (wt1 ts)).map fun n : Nat => (n : Int)) = zN (lensW (wt1 ts)) := rfl
  have hz2 : ((lensW (wt2 ts)).map fun n : Nat => (n : Int)) = zN (lensW (wt2 ts)) := rfl
  unfold blkF
  rw [ht1]
  dsimp only
  rw [if_neg (by simp), ht2]
  dsimp only
  rw [if_neg (by simp), hl1, hl2, if_neg (by omega), hz1, hz2, if_neg (by rw [hr1, hr2]; simp), hbl]
  simp only [List.length_append]
  congr 2
  omega
end Go.Proofs.YtkikgidmioofaaaGreat
