/- Layer 25: model.with over any row, model.without; model.With, model.Without. -/
import Derived.Test.YtaneifmbjkolaaaDoorFiN
namespace Go.Proofs.YtaneifmbjkolaaaDoor
open Go.RowKit

/-- A row's form: nil, or in a block. -/
def Shp (A : Option Addr) (n c : Nat) : Prop := (A = none ∧ n = 0 ∧ c = 0) ∨ ∃ b o, A = some ⟨b, o, none⟩ ∧ n ≤ c
theorem Shp.of_own {w : World} {base k n c : Nat} {e : TypeId} {A : Option Addr} {xs : List Value} (h : w.ownsRow base e k (.slice A n c) n xs) : Shp A n c := by
  rcases h.2 with ⟨h1, h2⟩ | ⟨g, cap, cur, hv, _, _, hn, _⟩
  · simp only [Value.slice.injEq] at h1
    exact .inl h1
  · simp only [Value.slice.injEq] at hv
    exact .inr ⟨g, 0, hv.1, by omega⟩
theorem with25_any (A : Option Addr) (l c : Nat) (fs : List Fi) (x : Fi) (B : Nat) (w : World) (hs : Shp A l c) (hl : fs.length = l) (hm : l ≤ 100000) (hr : Ris Fi.nm fs) (hb : Files w B A fs) (hB : B ≤ w.heap.size) (hx : Bytes w B x.ad x.data ∧ x.data.length ≤ x.cp) :
    Calls Tryd.prog 28 #[.slice A l c, .string x.nm, .slice x.ad x.data.length x.cp] w fun e w' => ∃ A' c', e = .returned (.slice A' (withK Fi.nm fs x).length c') ∧ Shp A' (withK Fi.nm fs x).length c' ∧ Files w' w'.heap.size A' (withK Fi.nm fs x) ∧ Below w.heap.size w w' := by
  have fin : ∀ (e : Ending) (w' : World) (ys : List Fi), ys = withK Fi.nm fs x → (∃ A' c', e = .returned (.slice A' ys.length c') ∧ w'.ownsRow w.heap.size 25 2 (.slice A' ys.length c') ys.length (fiCells ys) ∧ Below w.heap.size w w') → ∃ A' c', e = .returned (.slice A' (withK Fi.nm fs x).length c') ∧ Shp A' (withK Fi.nm fs x).length c' ∧ Files w' w'.heap.size A' (withK Fi.nm fs x) ∧ Below w.heap.size w w' := by
    rintro e w' ys rfl ⟨A', c', rfl, ho, hbb⟩
    refine ⟨A', c', rfl, Shp.of_own ho, Files.of_own ho (fun f hf => ?_), hbb⟩
    rcases mem_withK hf with rfl | h
    · exact ⟨((hx.1.more hB).below hbb (Nat.le_refl _)).more hbb.size, hx.2⟩
    · exact ⟨(((hb.each f h).1.more hB).below hbb (Nat.le_refl _)).more hbb.size, (hb.each f h).2⟩
  rcases hs with ⟨rfl, rfl, rfl⟩ | ⟨b, o, rfl, hlc⟩
  · have h0 : fs = [] := List.eq_nil_of_length_eq_zero hl
    subst h0
    exact (with25_none x w).mono fun e w' h => fin e w' [x] (by rfl) h
  · exact (with25_some b o l c fs x B w hl hlc hm hr hb hB).mono fun e w' h => fin e w' _ rfl h
set_option maxRecDepth 100000 in
set_option maxHeartbeats 2000000 in
theorem without25_not (A : Option Addr) (l c : Nat) (fs : List Fi) (s : ByteArray) (B : Nat) (w : World) (hl : fs.length = l) (hm : l ≤ 100000) (hr : Ris Fi.nm fs) (hb : Files w B A fs) (hB : B ≤ w.heap.size) (ht : hasK Fi.nm fs s = false) :
    Calls Tryd.prog 29 #[.slice A l c, .string s] w fun e w' => e = .returned (.slice A l c) ∧ Below w.heap.size w w' := by
  have HP := Lib.hid (placeF_any A l c fs s B w hl (by omega) hr hb hB)
  rw [ht] at HP
  clear hb hr hl ht
  go_enter Tryd.func29, Tryd.ntmps29
  go_wp2_with (go_at_call 25; refine HP.out.mono ?_; rintro e w1 ⟨rfl, hb1⟩; have HB1 := Lib.hid hb1; clear hb1)
  go_ret
  exact ⟨rfl, HB1.out⟩
set_option maxRecDepth 100000 in
set_option maxHeartbeats 2000000 in
theorem without25_there (b o : Nat) (l c : Nat) (fs : List Fi) (s : ByteArray) (B : Nat) (w : World) (hl : fs.length = l) (hlc : l ≤ c) (hm : l ≤ 100000) (hr : Ris Fi.nm fs) (hb : Files w B (some ⟨b, o, none⟩) fs) (hB : B ≤ w.heap.size) (ht : hasK Fi.nm fs s = true) :
    Calls Tryd.prog 29 #[.slice (some ⟨b, o, none⟩) l c, .string s] w fun e w' => ∃ A' c', e = .returned (.slice A' (outK Fi.nm fs s).length c') ∧ w'.ownsRow w.heap.size 25 2 (.slice A' (outK Fi.nm fs s).length c') (outK Fi.nm fs s).length (fiCells (outK Fi.nm fs s)) ∧ Below w.heap.size w w' := by
  have HP := Lib.hid (placeF_any (some ⟨b, o, none⟩) l c fs s B w hl (by omega) hr hb hB)
  obtain ⟨p, hp⟩ : ∃ p, posK Fi.nm fs s = p := ⟨_, rfl⟩
  rw [ht, hp] at HP
  have mixed : Tryd.prog.follows Departure.mixedOrders = true := by kernel_rfl
  have hrow := hb.row.more hB
  obtain ⟨y, hy, _⟩ := hasK_there hr ht
  rw [hp] at hy
  have hpl2 : p + 1 ≤ l := by have := (List.getElem?_eq_some_iff.1 hy).1; omega
  have ew : outK Fi.nm fs s = fs.take p ++ fs.drop (p + 1) := by rw [← out_there hr ht, hp]
  have HE := Lib.hid ew
  have hlen : (outK Fi.nm fs s).length = p + (l - (p + 1)) := by rw [ew, List.length_append, List.length_take, List.length_drop]; omega
  obtain ⟨n, hn⟩ : ∃ n, (outK Fi.nm fs s).length = n := ⟨_, rfl⟩
  rw [hn] at hlen
  have HC := Lib.hid (fun (A3 : Option Addr) (n3 c3 : Nat) (h3 : n3 = l - (p + 1)) (hc3 : Cells w w.heap.size A3 (fiCells (fs.drop (p + 1)))) (w1 : World) (hb1 : Below w.heap.size w w1) => concat2_any (some ⟨b, o, none⟩) A3 p c n3 c3 (fs.take p) (fs.drop (p + 1)) w w1 (by rw [List.length_take]; omega) (by rw [List.length_drop]; omega) (cells_takeF hrow p) hc3 (by omega) hb1 n (by omega))
  have HD := Lib.hid (cells_dropF hrow (p + 1))
  have HZ : Hid (l = p + 1 → ∀ A3, Cells w w.heap.size A3 (fiCells (fs.drop (p + 1)))) := fun hz A3 h => by rw [fi_len, List.length_drop] at h; omega
  have hw1 : IntKind.i64.wrap ((p : Int) + 1) = (p : Int) + 1 := IntWalk.i64_in _ (by omega)
  have hpc : p ≤ c := by omega
  rw [hn]
  clear hb hr ht hp hy ew hrow hlen
  by_cases hne : c = p + 1
  · subst hne
    obtain rfl : l = p + 1 := by omega
    have HY := HC.out (some ⟨b, o, none⟩) 0 0 (Nat.sub_self (p+1)).symm (HZ.out rfl (some ⟨b,o,none⟩))
    have HY2 := Lib.hid HY
    clear HY
    go_enter Tryd.func29, Tryd.ntmps29
    go_wp2_with (go_at_call 25; refine HP.out.mono ?_; rintro e w1 ⟨rfl, hb1⟩; have HB1 := Lib.hid hb1; clear hb1)
    go_region_with (go_at_call 37; refine (HY2.out w1 HB1.out).mono ?_; rintro e w2 ⟨A2, c2, rfl, ho2, hb2⟩; have HO2 := Lib.hid ho2; have HB2 := Lib.hid hb2; clear ho2 hb2)
    all_goals (go_wp2; go_ret; rw [HE.out]; exact ⟨A2, c2, rfl, HO2.out, HB2.out⟩)
  · go_enter Tryd.func29, Tryd.ntmps29
    go_wp2_with (go_at_call 25; refine HP.out.mono ?_; rintro e w1 ⟨rfl, hb1⟩; have HB1 := Lib.hid hb1; clear hb1)
    go_region_with (go_at_call 37; refine (HC.out _ _ _ rfl HD.out w1 HB1.out).mono ?_; rintro e w2 ⟨A2, c2, rfl, ho2, hb2⟩; have HO2 := Lib.hid ho2; have HB2 := Lib.hid hb2; clear ho2 hb2)
    all_goals (go_wp2; go_ret; rw [HE.out]; exact ⟨A2, c2, rfl, HO2.out, HB2.out⟩)
theorem without25_any (A : Option Addr) (l c : Nat) (fs : List Fi) (s : ByteArray) (B : Nat) (w : World) (hs : Shp A l c) (hl : fs.length = l) (hm : l ≤ 100000) (hr : Ris Fi.nm fs) (hb : Files w B A fs) (hB : B ≤ w.heap.size) :
    Calls Tryd.prog 29 #[.slice A l c, .string s] w fun e w' => ∃ A' c', e = .returned (.slice A' (outK Fi.nm fs s).length c') ∧ Shp A' (outK Fi.nm fs s).length c' ∧ Files w' w'.heap.size A' (outK Fi.nm fs s) ∧ Below w.heap.size w w' := by
  cases ht : hasK Fi.nm fs s with
  | false =>
    have e0 := out_not ht
    rw [e0, hl]
    exact (without25_not A l c fs s B w hl hm hr hb hB ht).mono fun e w' ⟨he, hbb⟩ => ⟨A, c, he, hs, ((hb.more hB).below hbb (Nat.le_refl _)).more hbb.size, hbb⟩
  | true =>
    rcases hs with ⟨rfl, rfl, rfl⟩ | ⟨b, o, rfl, hlc⟩
    · have h0 : fs = [] := List.eq_nil_of_length_eq_zero hl
      subst h0
      cases ht
    · refine (without25_there b o l c fs s B w hl hlc hm hr hb hB ht).mono ?_
      rintro e w' ⟨A', c', rfl, ho, hbb⟩
      exact ⟨A', c', rfl, Shp.of_own ho, Files.of_own ho (fun f hf => ⟨(((hb.each f (mem_outK hf)).1.more hB).below hbb (Nat.le_refl _)).more hbb.size, (hb.each f (mem_outK hf)).2⟩), hbb⟩
set_option maxRecDepth 100000 in
set_option maxHeartbeats 2000000 in
theorem With25_any (A : Option Addr) (l c : Nat) (fs : List Fi) (x : Fi) (B : Nat) (w : World) (hs : Shp A l c) (hl : fs.length = l) (hm : l ≤ 100000) (hr : Ris Fi.nm fs) (hb : Files w B A fs) (hB : B ≤ w.heap.size) (hx : Bytes w B x.ad x.data ∧ x.data.length ≤ x.cp) (hd : ∀ f ∈ fs, f.data.length ≤ 1000000) (hdx : x.data.length ≤ 1000000) :
    Calls Tryd.prog 13 #[.slice A l c, .string x.nm, .slice x.ad x.data.length x.cp] w fun e w' => ∃ A' c' gs, e = .returned (.slice A' gs.length c') ∧ gs.map Fi.key = (withK Fi.nm fs x).map Fi.key ∧ gs.length ≤ l + 1 ∧ Files w' w'.heap.size A' gs ∧ Below w.heap.size w w' := by
  have HW := Lib.hid (with25_any A l c fs x B w hs hl hm hr hb hB hx)
  have hle : (withK Fi.nm fs x).length ≤ l + 1 := by
    cases hq : hasK Fi.nm fs x.nm with
    | true => have := len_withK_there hr x hq; omega
    | false => have := len_withK_new hr x hq; omega
  obtain ⟨n, hn⟩ : ∃ n, (withK Fi.nm fs x).length = n := ⟨_, rfl⟩
  rw [hn] at HW hle
  have HN := Lib.hid hn
  have HX : Hid (∀ f ∈ withK Fi.nm fs x, f.data.length ≤ 1000000) := fun f hf => by
    rcases mem_withK hf with rfl | h
    · exact hdx
    · exact hd f h
  clear hb hr hl hs hn hd hdx hx
  go_enter Tryd.func13, Tryd.ntmps13
  go_wp2_with (first
    | (go_at_call 28; refine HW.out.mono ?_; rintro e w1 ⟨A1, c1, rfl, _, hf1, hb1⟩; have HF1 := Lib.hid hf1; have HB1 := Lib.hid hb1; clear hf1 hb1)
    | (go_at_call 27; refine (clone25_any A1 n c1 (withK Fi.nm fs x) w1.heap.size w1 HN.out (by omega) HF1.out (Nat.le_refl _) HX.out).mono ?_; rintro e w2 ⟨A2, c2, gs, rfl, hk2, hl2, hf2, hb2⟩; have HF2 := Lib.hid hf2; have HB2 := Lib.hid hb2; have HK2 := Lib.hid hk2; have HL2 := Lib.hid hl2; clear hf2 hb2 hk2 hl2))
  go_ret
  exact ⟨A2, c2, gs, by rw [HL2.out]; rfl, HK2.out, by rw [HL2.out]; exact hle, HF2.out, HB1.out.trans (HB2.out.mono HB1.out.size)⟩
set_option maxRecDepth 100000 in
set_option maxHeartbeats 2000000 in
theorem Without25_any (A : Option Addr) (l c : Nat) (fs : List Fi) (s : ByteArray) (B : Nat) (w : World) (hs : Shp A l c) (hl : fs.length = l) (hm : l ≤ 100000) (hr : Ris Fi.nm fs) (hb : Files w B A fs) (hB : B ≤ w.heap.size) (hd : ∀ f ∈ fs, f.data.length ≤ 1000000) :
    Calls Tryd.prog 14 #[.slice A l c, .string s] w fun e w' => ∃ A' c' gs, e = .returned (.slice A' gs.length c') ∧ gs.map Fi.key = (outK Fi.nm fs s).map Fi.key ∧ gs.length ≤ l ∧ Files w' w'.heap.size A' gs ∧ Below w.heap.size w w' := by
  have HW := Lib.hid (without25_any A l c fs s B w hs hl hm hr hb hB)
  have hle : (outK Fi.nm fs s).length ≤ l := by rw [← hl]; exact List.length_filter_le _ _
  obtain ⟨n, hn⟩ : ∃ n, (outK Fi.nm fs s).length = n := ⟨_, rfl⟩
  rw [hn] at HW hle
  have HN := Lib.hid hn
  have HX : Hid (∀ f ∈ outK Fi.nm fs s, f.data.length ≤ 1000000) := fun f hf => hd f (mem_outK hf)
  clear hb hr hl hs hn hd
  go_enter Tryd.func14, Tryd.ntmps14
  go_wp2_with (first
    | (go_at_call 29; refine HW.out.mono ?_; rintro e w1 ⟨A1, c1, rfl, _, hf1, hb1⟩; have HF1 := Lib.hid hf1; have HB1 := Lib.hid hb1; clear hf1 hb1)
    | (go_at_call 27; refine (clone25_any A1 n c1 (outK Fi.nm fs s) w1.heap.size w1 HN.out (by omega) HF1.out (Nat.le_refl _) HX.out).mono ?_; rintro e w2 ⟨A2, c2, gs, rfl, hk2, hl2, hf2, hb2⟩; have HF2 := Lib.hid hf2; have HB2 := Lib.hid hb2; have HK2 := Lib.hid hk2; have HL2 := Lib.hid hl2; clear hf2 hb2 hk2 hl2))
  go_ret
  exact ⟨A2, c2, gs, by rw [HL2.out]; rfl, HK2.out, by rw [HL2.out]; exact hle, HF2.out, HB1.out.trans (HB2.out.mono HB1.out.size)⟩
end Go.Proofs.YtaneifmbjkolaaaDoor
