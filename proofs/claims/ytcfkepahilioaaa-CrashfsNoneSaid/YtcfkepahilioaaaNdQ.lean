/- Layer 5: what a map of names and numbers reads as, as a list that rises. -/
import Derived.Test.YtcfkepahilioaaaNdP
namespace Go.Proofs.Ytcfkepahilioaaa
open Go.RowKit Go.Maps

def kS (s : ByteArray) : Lit := .string s.data.toList
def vD (i : Int) : DataW Unit := .lit (.int .i64 i)
def dirE (l : List Nt) : List (Lit × DataW Unit) := l.map fun e => (kS e.nm, vD e.id)
def dirD (l : List Nt) : DataW Unit := .map (dirE l)
theorem kS_key (s : ByteArray) : WideAt.IsKeyLit (kS s) := trivial
theorem toList_data (s : ByteArray) : s.toList = s.data.toList := ByteArray.toList_eq s
theorem kS_inj {a b : ByteArray} (h : kS a = kS b) : a = b := by
  unfold kS at h
  injection h with h
  exact nm_eq (by rw [toList_data, toList_data, h])
theorem before_less : ∀ a b : List UInt8, bytesBefore a b = Op.bytesLess a b
  | [], [] => rfl
  | [], _ :: _ => rfl
  | _ :: _, [] => rfl
  | a :: x, b :: y => by simp only [bytesBefore, Op.bytesLess]; rw [before_less x y]
theorem kS_before (a b : ByteArray) : (kS a).before (kS b) = ltN a b := by
  unfold kS ltN
  rw [toList_data, toList_data]
  exact before_less _ _
theorem canon_dirD {l : List Nt} (h : Ris Nt.nm l) : Canon (dirD l) := by
  refine ⟨dirE l, rfl, ?_, fun p hp => ?_⟩
  · unfold dirE
    rw [List.pairwise_map]
    exact h.imp fun {a b} hab => by rw [kS_before]; exact hab
  · unfold dirE at hp
    obtain ⟨e, _, rfl⟩ := List.mem_map.1 hp
    exact kS_key _
theorem has_dirD {l : List Nt} {k : Lit} : has (dirD l) k = true ↔ ∃ e ∈ l, kS e.nm = k := by
  unfold dirD
  rw [has_eq, List.any_eq_true]
  constructor
  · rintro ⟨p, hp, hk⟩
    unfold dirE at hp
    obtain ⟨e, he, rfl⟩ := List.mem_map.1 hp
    refine ⟨e, he, ?_⟩
    by_cases h : kS e.nm = k
    · exact h
    · rw [show (kS e.nm).sameKey k = false from sameKey_ne h] at hk; cases hk
  · rintro ⟨e, he, rfl⟩
    exact ⟨(kS e.nm, vD e.id), List.mem_map.2 ⟨e, he, rfl⟩, WideAt.sameKey_self (kS_key _)⟩
theorem has_dirDs (l : List Nt) (s : ByteArray) : has (dirD l) (kS s) = hasK Nt.nm l s := by
  rw [Bool.eq_iff_iff, has_dirD, hasK_iff]
  constructor
  · rintro ⟨e, he, hk⟩; exact ⟨e, he, kS_inj hk⟩
  · rintro ⟨e, he, hk⟩; exact ⟨e, he, by rw [hk]⟩
theorem at_dirD {l : List Nt} (h : Ris Nt.nm l) {e : Nt} (he : e ∈ l) (z : DataW Unit) : (dirD l).atKey (kS e.nm) z = vD e.id := by
  refine WideAt.atKey_mem z (kS_key _) ?_ (List.mem_map.2 ⟨e, he, rfl⟩)
  obtain ⟨es, h1, h2, _⟩ := canon_dirD h
  injection h1 with h1
  rw [show dirE l = es from h1]
  exact apart_of_rising h2
theorem at_idAt {l : List Nt} (h : Ris Nt.nm l) (s : ByteArray) : (dirD l).atKey (kS s) (vD 0) = vD (idAt l s) := by
  unfold idAt
  cases e : findK Nt.nm l s with
  | none =>
    have hh : hasK Nt.nm l s = false := by rw [← findK_some, e]; rfl
    exact atKey_of_not_has (by rw [has_dirDs]; exact hh) _
  | some x =>
    obtain ⟨h1, h2⟩ := findK_at e
    rw [← h1]
    exact at_dirD h h2 _
theorem isMap_dirD (l : List Nt) : IsMap (dirD l) := ⟨_, rfl⟩
theorem put_dirD {l : List Nt} (h : Ris Nt.nm l) (m : Nt) (c : Canon ((dirD l).put (kS m.nm) (vD m.id))) : (dirD l).put (kS m.nm) (vD m.id) = dirD (withK Nt.nm l m) := by
  refine Maps.ext c (canon_dirD (h.withK m)) (fun k => ?_) (fun k z hk => ?_)
  · by_cases e : k = kS m.nm
    · subst e
      rw [has_put_same (isMap_dirD l) (kS_key _)]
      exact (has_dirD.2 ⟨m, mem_with.2 (.inl rfl), rfl⟩).symm
    · rw [has_put_other e, Bool.eq_iff_iff, has_dirD, has_dirD]
      constructor
      · rintro ⟨x, hx, rfl⟩
        exact ⟨x, mem_with.2 (.inr ⟨hx, fun h => e (by rw [h])⟩), rfl⟩
      · rintro ⟨x, hx, rfl⟩
        rcases mem_with.1 hx with rfl | ⟨hx, _⟩
        · exact absurd rfl e
        · exact ⟨x, hx, rfl⟩
  · by_cases e : k = kS m.nm
    · subst e
      rw [atKey_put_same (isMap_dirD l) (kS_key _)]
      exact (at_dirD (h.withK m) (mem_with.2 (.inl rfl)) z).symm
    · rw [has_put_other e] at hk
      obtain ⟨x, hx, rfl⟩ := has_dirD.1 hk
      rw [atKey_put_other e, at_dirD h hx z]
      exact (at_dirD (h.withK m) (mem_with.2 (.inr ⟨hx, fun h => e (by rw [h])⟩)) z).symm
theorem del_dirD {l : List Nt} (h : Ris Nt.nm l) (s : ByteArray) (c : Canon ((dirD l).del (kS s))) : (dirD l).del (kS s) = dirD (outK Nt.nm l s) := by
  refine Maps.ext c (canon_dirD (h.outK s)) (fun k => ?_) (fun k z hk => ?_)
  · by_cases e : k = kS s
    · subst e
      rw [has_del_same, has_dirDs]
      exact (hasK_not.2 (fun x hx => (mem_out.1 hx).2)).symm
    · rw [has_del_other e, Bool.eq_iff_iff, has_dirD, has_dirD]
      constructor
      · rintro ⟨x, hx, rfl⟩
        exact ⟨x, mem_out.2 ⟨hx, fun h => e (by rw [h])⟩, rfl⟩
      · rintro ⟨x, hx, rfl⟩
        exact ⟨x, (mem_out.1 hx).1, rfl⟩
  · by_cases e : k = kS s
    · subst e
      rw [has_del_same] at hk
      cases hk
    · rw [has_del_other e] at hk
      obtain ⟨x, hx, rfl⟩ := has_dirD.1 hk
      rw [atKey_del_other e, at_dirD h hx z]
      exact (at_dirD (h.outK s) (mem_out.2 ⟨hx, fun h => e (by rw [h])⟩) z).symm
theorem size_dirD (l : List Nt) : Maps.size (dirD l) = l.length := by
  unfold dirD
  rw [size_eq]
  unfold dirE
  rw [List.length_map]
theorem merge_dirD {l : List Nt} (h : Ris Nt.nm l) (c : Canon (Lib.mergeD (.map []) (dirD l))) : Lib.mergeD (.map []) (dirD l) = dirD l := by
  obtain ⟨es, h1, h2, h3⟩ := canon_dirD h
  have e1 : dirE l = es := by injection h1
  have hk : ∀ p ∈ dirE l, WideAt.IsKeyLit p.1 := by rw [e1]; exact h3
  have ha : (dirE l).Pairwise (fun p q => p.1 ≠ q.1) := by rw [e1]; exact apart_of_rising h2
  refine Maps.ext c (canon_dirD h) (fun k => ?_) (fun k z hk2 => ?_)
  · show has ((dirE l).foldl (fun (D : DataW Unit) p => D.put p.1 p.2) (.map [])) k = has (.map (dirE l)) k
    rw [has_foldPut k _ _ isMap_empty hk, has_eq, has_eq]
    rfl
  · show ((dirE l).foldl (fun (D : DataW Unit) p => D.put p.1 p.2) (.map [])).atKey k z = (DataW.map (dirE l)).atKey k z
    rw [atKey_foldPut k z _ _ isMap_empty hk ha]
    cases hf : (dirE l).find? (fun p => p.1.sameKey k) <;> simp [DataW.atKey, hf]
end Go.Proofs.Ytcfkepahilioaaa
