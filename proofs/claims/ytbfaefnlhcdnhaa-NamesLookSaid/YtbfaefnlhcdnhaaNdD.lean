/- Layer 5: what a directory tells; Sync. -/
import Derived.Test.YtbfaefnlhcdnhaaNdC
namespace Go.Proofs.Ytbfaefnlhcdnhaa
open Go.RowKit Go.Maps

set_option maxRecDepth 100000 in
set_option maxHeartbeats 1000000 in
theorem lookup5_any (d : Nat) (F : Nat → Prop) (now safe : List Nt) (ws : List Ch) (s : ByteArray) (w : World) (h : DirS w d F now safe ws) (hr : Ris Nt.nm now) (hs : s.size ≤ 1000) :
    Calls Try.prog 14 #[.pointer (some ⟨d, 0, none⟩), .string s] w fun e w' => e = .returned (.tuple #[.int .i64 (idAt now s), .bool (hasK Nt.nm now s)]) ∧ w = w' := by
  obtain ⟨bn, bs, Aw, cw, hD⟩ := h
  have HD := Lib.hid hD
  have HR := Lib.hid hr
  obtain ⟨c0, c1, c2, f0, f1, f2⟩ := hD.cells
  rcases hD.now with ⟨rfl, rfl⟩ | ⟨b, rfl, hm⟩
  · have hln := Maps.look_nil (P := Try.prog) (w := w) true strLaw Try.underlying25 (zeroI w) (hkeyS hs)
    clear hD
    go_enter Try.func14, Try.ntmps14
    go_wp2
    go_ret2
    exact ⟨rfl, rfl⟩
  · have HM := Lib.hid hm
    have HCC : Hid (∀ cc : Int, (dirD now).atKey (kS s) (.lit (.int .i64 0)) = .lit (.int .i64 cc) → cc = idAt now s) := fun cc h => by
      have h1 := at_idAt HR.out s
      have h2 : (DataW.lit (.int .i64 cc) : DataW Unit) = vD (idAt now s) := h.symm.trans h1
      injection h2 with h2
      injection h2
    have HH := Lib.hid (has_dirDs now s)
    clear hD hm
    go_enter Try.func14, Try.ntmps14
    go_wp2_with (at_lookup; refine wpList_lookup_own_ok_int _ rfl _ _ 25 rfl 9 3 .i64 strLaw Try.underlying25 Try.underlying3 (zeroI _) b now.length (dirD now) rfl HM.out (.string s) (kS s) rfl (hkeyS hs) ?_; intro cc hat hwc; obtain rfl := HCC.out cc hat; rw [HH.out]; clear hat hwc)
    go_ret2
    exact ⟨rfl, rfl⟩
set_option maxRecDepth 100000 in
set_option maxHeartbeats 1000000 in
theorem waiting5_any (d : Nat) (F : Nat → Prop) (now safe : List Nt) (ws : List Ch) (w : World) (h : DirS w d F now safe ws) :
    Calls Try.prog 11 #[.pointer (some ⟨d, 0, none⟩)] w fun e w' => e = .returned (.int .i64 (ws.length : Nat)) ∧ w = w' := by
  obtain ⟨bn, bs, Aw, cw, hD⟩ := h
  obtain ⟨c0, c1, c2, f0, f1, f2⟩ := hD.cells
  clear hD
  go_enter Try.func11, Try.ntmps11
  go_wp2
  go_ret
  exact ⟨rfl, rfl⟩
def nmCells (l : List Nt) : List Value := l.map fun e => .string e.nm
theorem names_cells {l : List Nt} (h : Ris Nt.nm l) {ss : List (List UInt8)} (hp : ss.Perm (strKeys (dirD l))) : (ss.mergeSort (fun x y => decide (x ≤ y))).map encStr = nmCells l ∧ ss.length = l.length := by
  refine ⟨?_, ?_⟩
  · rw [sort_names h hp, List.map_map]
    unfold nmCells
    refine List.map_congr_left fun e _ => ?_
    show Value.string ⟨e.nm.data.toList.toArray⟩ = _
    simp
  · rw [hp.length_eq, keys_dirD, List.length_map]
theorem own_base1 {w w0 : World} {o : Obj} {e : TypeId} {v : Value} {n : Nat} {xs : List Value} (h : w.ownsRow (w0.alloc o).heap.size e 1 v n xs) : w.ownsRow w0.heap.size e 1 v n xs := ⟨h.1, by
  rcases h.2 with h | ⟨g, cap, cur, h1, h2, h3⟩
  · exact .inl h
  · exact .inr ⟨g, cap, cur, h1, by rw [World.size_alloc] at h2; omega, h3⟩⟩
set_option maxRecDepth 100000 in
set_option maxHeartbeats 1000000 in
theorem names5_any (d : Nat) (F : Nat → Prop) (now safe : List Nt) (ws : List Ch) (w : World) (h : DirS w d F now safe ws) (hr : Ris Nt.nm now) (hl : now.length ≤ 100000) :
    Calls Try.prog 15 #[.pointer (some ⟨d, 0, none⟩)] w fun e w' => ∃ A c, e = .returned (.slice A now.length c) ∧ w'.ownsRow w.heap.size 9 1 (.slice A now.length c) now.length (nmCells now) ∧ Below w.heap.size w w' := by
  obtain ⟨bn, bs, Aw, cw, hD⟩ := h
  have HR := Lib.hid hr
  obtain ⟨c0, c1, c2, f0, f1, f2⟩ := hD.cells
  rcases hD.now with ⟨rfl, rfl⟩ | ⟨b, rfl, hm⟩
  · have HK := Lib.hid (callsIn_wide.1 (Try.maps_Keys_31 none w))
    have HS := Lib.hid (callsIn_wide.1 (Try.slices_Sorted_keys_nil_30_31 w))
    clear hD
    go_enter Try.func15, Try.ntmps15
    go_wp2_with (first
      | (go_at_call 31; refine HK.out.mono ?_; rintro e w1 ⟨rfl, rfl⟩)
      | (go_at_call 30; refine HS.out.mono ?_; rintro e w2 ⟨v, ss, rfl, rfl, _, hnil, hb⟩; obtain rfl := hnil.2 rfl; have HB := Lib.hid hb; clear hb hnil))
    go_ret
    exact ⟨none, 0, rfl, World.ownsRow_nil _ _ _ _, ((Below.refl _ w).alloc (Nat.le_refl _) _).trans (HB.out.mono (by simp))⟩
  · have hsz : Maps.size (dirD now) ≤ maxLen := by rw [size_dirD]; unfold maxLen; omega
    have hby : Maps.size (dirD now) * 16 ≤ 140737488355328 := by rw [size_dirD]; omega
    have HK := Lib.hid (callsIn_wide.1 (Try.maps_Keys_31 (some b) w))
    have HS := Lib.hid (callsIn_wide.1 (Try.slices_Sorted_keys_30_31 b now.length (dirD now) _ w hm hsz hby))
    clear hD hm hsz hby
    go_enter Try.func15, Try.ntmps15
    go_wp2_with (first
      | (go_at_call 31; refine HK.out.mono ?_; rintro e w1 ⟨rfl, rfl⟩)
      | (go_at_call 30; refine HS.out.mono ?_; rintro e w2 ⟨v, ss, rfl, hp, hown, _, hb⟩; obtain ⟨h1, h2⟩ := names_cells HR.out hp; rw [h1, h2] at hown; obtain ⟨A, c, rfl⟩ := own_form hown; have HC := Lib.hid (own_base1 hown); have HB := Lib.hid hb; clear hb hown hp h1 h2))
    go_ret
    exact ⟨A, c, rfl, HC.out, ((Below.refl _ w).alloc (Nat.le_refl _) _).trans (HB.out.mono (by simp))⟩
end Go.Proofs.Ytbfaefnlhcdnhaa
