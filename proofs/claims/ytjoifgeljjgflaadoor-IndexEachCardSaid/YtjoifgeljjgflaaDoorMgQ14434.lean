/- Layer 24: what an index tells of a folder. -/
import Derived.Test.YtjoifgeljjgflaaDoorMgQ14433
namespace Go.Proofs.YtjoifgeljjgflaaDoor
open Go.RowKit Go.Shelf
attribute [local go_sem] Oper.semAt_some

/-- An iterator of members: its box, and where the row's block lies. -/
structure SeqAt (w : World) (b bl : Nat) (ms : List LM) : Prop where
  box : ∃ A c, w.heap[b]? = some (.cells #[.slice A ms.length c] 22) ∧ (0 < ms.length → RowObj w A (memCells ms) bl)
  lt : 0 < ms.length → bl < w.heap.size

set_option maxHeartbeats 400000 in
theorem values_any (A : Option Addr) (l c : Nat) (w : World) : Calls Tryd.prog 39 #[.slice A l c] w fun e w' => e = .returned (.func (.func 47) #[] #[.pointer (some ⟨w.heap.size, 0, none⟩)]) ∧ w.alloc (.cells #[.slice A l c] 22) = w' := by
  go_enter Tryd.func39, Tryd.ntmps39
  go_wp2
  go_ret
  exact ⟨rfl, rfl⟩
set_option maxHeartbeats 2000000 in
theorem ixFrom_any (base g : Nat) (A : Option Addr) (c : Nat) (ms : List LM) (s : ByteArray) (w : World) (h : LX w base g A c ms) : Calls Tryd.prog 37 #[.pointer (some ⟨g, 0, none⟩), .string s] w fun e w' => ∃ b bl, e = .returned (.func (.func 47) #[] #[.pointer (some ⟨b, 0, none⟩)]) ∧ SeqAt w' b bl (ms.drop (posK LM.nm ms s)) ∧ w.heap.size ≤ b ∧ (0 < (ms.drop (posK LM.nm ms s)).length → ownS (.slice A ms.length c) bl) ∧ Below w.heap.size w w' := by
  have HP := Lib.hid (ixPlace_any base g A c ms s w h)
  have HM := Lib.hid (fun W (hW : Below w.heap.size w W) => ixMembers_any base g A c ms W (h.below hW rfl))
  have HV := Lib.hid (fun A l c W => values_any A l c W)
  have HH := Lib.hid h
  have hpl := posK_le (k := LM.nm) ms s
  obtain ⟨p, hp⟩ : ∃ p, posK LM.nm ms s = p := ⟨_, rfl⟩
  rw [hp] at HP hpl ⊢
  have hnc : ms.length ≤ c := by
    rcases ownK_form h.own with ⟨he, h0⟩ | ⟨g', c', he⟩
    · omega
    · injection he with hA _ hc
      subst hA hc
      exact (ownK_row h.own).choose_spec.2.2.2.1
  have hpi : (p : Int) ≤ (ms.length : Int) := by omega
  have hpc : (p : Int) ≤ (c : Int) := by omega
  clear h hp
  -- the row from the place on
  have key : ∀ (W : World) (b : Nat) (A' : Option Addr) (c' : Nat), Below w.heap.size w W → W.heap[b]? = some (.cells #[.slice A' (ms.length - p) c'] 22) → (p < ms.length → ∃ a o, A = some ⟨a, o, none⟩ ∧ A' = some ⟨a, o + p * 7, none⟩) → ∃ bl, SeqAt W b bl (ms.drop p) ∧ (0 < (ms.drop p).length → ownS (.slice A ms.length c) bl) := by
    intro W b A' c' hW hb hA
    have hlen : (ms.drop p).length = ms.length - p := by rw [List.length_drop]
    by_cases hp0 : p < ms.length
    · obtain ⟨a, o, rfl, rfl⟩ := hA hp0
      have hcl := (HH.out.below hW rfl).cells
      obtain ⟨a', o', he, ha', hc'⟩ := hcl (by rw [memCells_len]; omega)
      injection he with he
      injection he with he1 he2
      subst he1 he2
      have hcl2 : Cells W W.heap.size (some ⟨a, o + p * 7, none⟩) (memCells (ms.drop p)) := fun _ => ⟨a, o + p * 7, rfl, ha', fun j u hj => by
        rw [Nat.add_assoc]
        refine hc' (p * 7 + j) u ?_
        unfold memCells at hj
        rw [← memCells_drop, List.getElem?_drop] at hj
        exact hj⟩
      obtain ⟨bl, hbl, hlt⟩ := rowObj_of hcl2 (by rw [memCells_len, hlen]; omega)
      have hba : bl = a := by
        obtain ⟨o2, cur, t, fz, e2, _⟩ := hbl
        injection e2 with e2
        injection e2 with e2
        exact e2.symm
      refine ⟨bl, ⟨⟨_, c', by rw [hlen]; exact hb, fun _ => hbl⟩, fun _ => hlt⟩, fun _ => by rw [hba]; rfl⟩
    · refine ⟨0, ⟨⟨A', c', by rw [hlen]; exact hb, fun h0 => by rw [hlen] at h0; omega⟩, fun h0 => by rw [hlen] at h0; omega⟩, fun h0 => by rw [hlen] at h0; omega⟩
  have HK := Lib.hid key
  clear key
  cases A with
  | none =>
    have h0 : ms.length = 0 ∧ c = 0 := by
      rcases ownK_form HH.out.own with ⟨he, h0⟩ | ⟨_, _, he⟩
      · injection he with _ _ hc; exact ⟨h0, hc⟩
      · cases he
    obtain rfl : p = 0 := by omega
    have hm0 : ((ms.length : Nat) : Int) = 0 := by omega
    obtain rfl : c = 0 := h0.2
    have HNM : Hid (ms.length = 0) := h0.1
    rw [HNM.out] at HM
    clear h0 hm0 hpi hpc hnc hpl
    go_enter Tryd.func37, Tryd.ntmps37
    go_wp2_with (first
      | (go_at_call 40; refine HP.out.mono ?_; rintro e w1 ⟨rfl, hbel⟩; have HB1 := Lib.hid hbel; clear hbel HP)
      | (go_at_call 34; refine (HM.out _ HB1.out).mono ?_; rintro e w2 ⟨rfl, rfl⟩; clear HM)
      | (go_at_call 39; refine (HV.out _ _ _ _).mono ?_; rintro e w3 ⟨rfl, hw3⟩; have HW3 := Lib.hid hw3; clear hw3 HV))
    go_ret
    have hb3 : Below w.heap.size w w3 := by rw [← HW3.out]; exact HB1.out.alloc HB1.out.size _
    obtain ⟨bl, h1, h2⟩ := HK.out w3 w1.heap.size none 0 hb3 (by rw [← HW3.out, HNM.out]; exact heap_alloc_new w1 _) (fun hh => by have := HNM.out; omega)
    exact ⟨w1.heap.size, bl, rfl, h1, HB1.out.size, h2, hb3⟩
  | some ad =>
    have had : ∃ g', ad = ⟨g', 0, none⟩ := by
      rcases ownK_form HH.out.own with ⟨he, _⟩ | ⟨g', c', he⟩
      · cases he
      · injection he with hA _ _
        injection hA with hA
        exact ⟨g', hA⟩
    obtain ⟨g', rfl⟩ := had
    by_cases hce : c = p
    · have hpn : p = ms.length := by omega
      subst hce
      clear hpi hpc hnc hpl
      go_enter Tryd.func37, Tryd.ntmps37
      go_wp2_with (first
        | (go_at_call 40; refine HP.out.mono ?_; rintro e w1 ⟨rfl, hbel⟩; have HB1 := Lib.hid hbel; clear hbel HP)
        | (go_at_call 34; refine (HM.out _ HB1.out).mono ?_; rintro e w2 ⟨rfl, rfl⟩; clear HM)
        | (go_at_call 39; refine (HV.out _ _ _ _).mono ?_; rintro e w3 ⟨rfl, hw3⟩; have HW3 := Lib.hid hw3; clear hw3 HV))
      go_ret
      have hb3 : Below w.heap.size w w3 := by rw [← HW3.out]; exact HB1.out.alloc HB1.out.size _
      obtain ⟨bl, h1, h2⟩ := HK.out w3 w1.heap.size (some ⟨g', 0, none⟩) 0 hb3 (by rw [← HW3.out, hpn, Nat.sub_self]; exact heap_alloc_new w1 _) (fun hh => by omega)
      exact ⟨w1.heap.size, bl, rfl, h1, HB1.out.size, h2, hb3⟩
    · have hce' : ¬ c = p := hce
      go_enter Tryd.func37, Tryd.ntmps37
      go_wp2_with (first
        | (go_at_call 40; refine HP.out.mono ?_; rintro e w1 ⟨rfl, hbel⟩; have HB1 := Lib.hid hbel; clear hbel HP)
        | (go_at_call 34; refine (HM.out _ HB1.out).mono ?_; rintro e w2 ⟨rfl, rfl⟩; clear HM)
        | (go_at_call 39; refine (HV.out _ _ _ _).mono ?_; rintro e w3 ⟨rfl, hw3⟩; have HW3 := Lib.hid hw3; clear hw3 HV))
      go_ret
      have hb3 : Below w.heap.size w w3 := by rw [← HW3.out]; exact HB1.out.alloc HB1.out.size _
      obtain ⟨bl, h1, h2⟩ := HK.out w3 w1.heap.size (some ⟨g', p * 7, none⟩) (c - p) hb3 (by rw [← HW3.out]; exact heap_alloc_new w1 _) (fun hh => ⟨g', 0, rfl, by rw [Nat.zero_add]⟩)
      exact ⟨w1.heap.size, bl, rfl, h1, HB1.out.size, h2, hb3⟩

/-- Members whose names are within a text's bounds. -/
abbrev NM := {m : LM // m.nm.size ≤ maxLen}
abbrev uN (l : List NM) : List LM := l.map fun m => m.1
theorem nm_lift : ∀ (l : List LM), (∀ m ∈ l, m.nm.size ≤ maxLen) → ∃ l' : List NM, uN l' = l
  | [], _ => ⟨[], rfl⟩
  | x :: l, h => by
    obtain ⟨l', h1⟩ := nm_lift l (fun m hm => h m (List.mem_cons_of_mem _ hm))
    exact ⟨⟨x, h x (List.mem_cons_self ..)⟩ :: l', by show x :: uN l' = _; rw [h1]⟩
theorem kpb_below {W W' : World} {n B : Nat} (h : Below W.heap.size W W') (hn : n ≤ W.heap.size) (hB : B < W.heap.size) : KpB n B W W' := by
  have he : ownOf B W' = ownOf B W := ownOf_block (h.block B hB)
  refine ⟨h.mono hn, fun k p hk _ _ _ => (h.block k (Array.getElem?_eq_some_iff.1 hk).1).trans hk, fun k hk => ?_, h.size⟩
  rw [he] at hk
  exact ⟨.inl hk, .inl hk⟩
theorem keepsFrom_below {W W' : World} {B : Nat} (h : Below W.heap.size W W') : KeepsFrom B W W' := ⟨h.size, fun k _ _ hk _ => (h.block k (Array.getElem?_eq_some_iff.1 hk).1).trans hk⟩

theorem newCells (W : World) (x : LM) : Cells (W.alloc (.cells #[.string x.nm, .int .i64 x.at_, .int .i64 x.fr, .int .i64 x.ar, .int .i64 x.sz, .int .u32 x.su, .int .i64 x.me] 32)) (W.heap.size + 1) (some ⟨W.heap.size, 0, none⟩) x.cells := fun _ =>
  ⟨W.heap.size, 0, rfl, by omega, fun j u hu => by
    rw [Nat.zero_add, cell_of_row _ W.heap.size j _ _ _ (heap_alloc_new W _), ← Array.getElem?_toList]
    exact hu⟩
theorem kpbM_append {W w1 : World} {n B : Nat} {v v' : Value} {k m : Nat} {xs ys : List Value} {tmp : Obj} (hv : Boxed W B 22 v) (hrow : W.ownsRow n 32 7 v k xs) (hn : n ≤ W.heap.size) (hB : n ≤ B) (hap : App (W.alloc tmp) n 32 7 v m ys w1 v') :
    Boxed w1 B 22 v ∧ Boxed (w1.setCell ⟨B, 0, none⟩ v') B 22 v' ∧ (w1.setCell ⟨B, 0, none⟩ v').ownsRow n 32 7 v' m ys ∧ KeepsOthers W (w1.setCell ⟨B, 0, none⟩ v') ∧ Below n W (w1.setCell ⟨B, 0, none⟩ v') ∧ KpB n B W (w1.setCell ⟨B, 0, none⟩ v') := by
  obtain ⟨p1, p2, p3, p4, p5⟩ := hv.appended (by decide) hrow hn hB hap.own hap.grow
  have hs1 := hap.grow.size
  have hs2 : W.heap.size + 1 ≤ w1.heap.size := by simpa using hs1
  refine ⟨p1, p2, p3, p4, p5, p5, fun j o hj ho hjB hno => ?_, fun j hj => ?_, p4.size⟩
  · have hlt := (Array.getElem?_eq_some_iff.1 hj).1
    rw [ownOf_box hv] at hno
    exact (Below.heap_setCell w1 ⟨B, 0, none⟩ v' j hjB).trans ((hap.grow.block j (by simp; omega) (fun e => hno e.symm)).trans ((Below.heap_alloc W tmp j hlt).trans hj))
  · rw [ownOf_box p2] at hj
    rw [ownOf_box hv]
    rcases hap.loc with h | ⟨g, h, hg⟩
    · rw [h] at hj; exact ⟨.inl hj, .inl hj⟩
    · rw [h] at hj
      cases hj
      have hlt := own_lt p3 j h
      refine ⟨.inr (by simp at hg; omega), .inr hlt⟩
theorem seqAt_new {w W : World} {n B c D : Nat} {A : Option Addr} {ms : List LM} (hv : Boxed W B 22 (.slice A ms.length c)) (hrow : W.ownsRow n 32 7 (.slice A ms.length c) ms.length (memCells ms)) (hn : w.heap.size ≤ n) (hb : Below w.heap.size w W) (hd : W.heap[D]? = some (.deferred (some []))) (hD : w.heap.size ≤ D) :
    (W.alloc (.cells #[.slice A ms.length c] 22)).heap[D]? = some (.deferred (some [])) ∧ ∃ bl, SeqAt ((W.alloc (.cells #[.slice A ms.length c] 22)).putObj D (.deferred none)) W.heap.size bl ms ∧ w.heap.size ≤ W.heap.size ∧ (0 < ms.length → w.heap.size ≤ bl) ∧ Below w.heap.size w ((W.alloc (.cells #[.slice A ms.length c] 22)).putObj D (.deferred none)) := by
  have hlt := (Array.getElem?_eq_some_iff.1 hd).1
  have h1 : (W.alloc (.cells #[.slice A ms.length c] 22)).heap[D]? = some (.deferred (some [])) := (Below.heap_alloc W _ D hlt).trans hd
  refine ⟨h1, ?_⟩
  have hbl : Below w.heap.size w ((W.alloc (.cells #[.slice A ms.length c] 22)).putObj D (.deferred none)) := below_put (hb.alloc hb.size _) hD _
  have hbox : ((W.alloc (.cells #[.slice A ms.length c] 22)).putObj D (.deferred none)).heap[W.heap.size]? = some (.cells #[.slice A ms.length c] 22) := (World.putObj_heap_other (by omega)).trans (heap_alloc_new W _)
  rcases ownK_form hrow with ⟨he, h0⟩ | ⟨g', c', he⟩
  · exact ⟨w.heap.size, ⟨⟨A, c, hbox, fun h => by omega⟩, fun h => by omega⟩, hb.size, fun _ => Nat.le_refl _, hbl⟩
  · injection he with hA _ hc
    subst hA hc
    obtain ⟨cur, hg, htk, hng, _, _, _, hxl⟩ := ownK_row hrow
    have hgl := (Array.getElem?_eq_some_iff.1 hg).1
    refine ⟨g', ⟨⟨_, c, hbox, fun _ => ⟨0, cur, _, _, rfl, (World.putObj_heap_other (fun e => ?_)).trans ((Below.heap_alloc W _ g' hgl).trans hg), fun j u hj => ?_⟩⟩, fun _ => ?_⟩, hb.size, fun _ => by omega, hbl⟩
    · subst e; rw [hd] at hg; cases hg
    · rw [Nat.zero_add, ← Array.getElem?_toList, ← hj, ← htk, List.getElem?_take_of_lt]
      rw [← hxl]
      exact (List.getElem?_eq_some_iff.1 hj).1
    · simp [World.putObj]; omega
set_option maxRecDepth 100000 in
set_option maxHeartbeats 4000000 in
theorem ixEach_any (base g : Nat) (A : Option Addr) (c : Nat) (ms : List LM) (s : ByteArray) (w : World) (h : LX w base g A c ms) (hg : GoodL ms) (hs : s.size ≤ 1000) : Calls Tryd.prog 19 #[.pointer (some ⟨g, 0, none⟩), .string s] w fun e w' => ∃ b bl, e = .returned (.func (.func 47) #[] #[.pointer (some ⟨b, 0, none⟩)]) ∧ SeqAt w' b bl (inL s ms) ∧ w.heap.size ≤ b ∧ (0 < (inL s ms).length → w.heap.size ≤ bl) ∧ Below w.heap.size w w' := by
  obtain ⟨W0, hW0⟩ : ∃ W0, w.alloc (.cells #[.string s] 9) = W0 := ⟨_, rfl⟩
  obtain ⟨W1, hW1⟩ : ∃ W1, W0.alloc (.cells #[.slice none 0 0] 22) = W1 := ⟨_, rfl⟩
  have hb1 : Below w.heap.size w W1 := by rw [← hW1, ← hW0]; exact ((Below.refl _ w).alloc (Nat.le_refl _) _).alloc (by simp) _
  have hz0 : W0.heap.size = w.heap.size + 1 := by rw [← hW0]; simp
  have hz1 : W1.heap.size = w.heap.size + 2 := by rw [← hW1]; simp [hz0]
  have HF := Lib.hid (ixFrom_any base g A c ms s W1 (h.below hb1 rfl))
  have HX1 : Hid (Boxed W1 (w.heap.size + 1) 22 (.slice none 0 0)) := by rw [← hW1, ← hz0]; exact Boxed.new W0 _ _
  have HS1 : Hid (Box W1 w.heap.size #[.string s] 9) := by rw [← hW1]; refine Box.alloc ?_ _; rw [← hW0]; exact heap_alloc_new w _
  have b0 : W1.cell? ⟨w.heap.size, 0, none⟩ = some (.string s) := HS1.out.cell 0
  have HB1 := Lib.hid hb1
  have HZ1 := Lib.hid hz1
  have HV := Lib.hid (fun A l c W => values_any A l c W)
  have HIL := Lib.hid (inL_drop h.ris s)
  have HIX := Lib.hid h
  have HG := Lib.hid hg
  have HRD : Hid (RisM (ms.drop (posK LM.nm ms s))) := List.Pairwise.drop h.ris
  have HRN : Hid (∀ m ∈ ms.drop (posK LM.nm ms s), rightB m.nm.data.toList = true ∧ m.nm.size ≤ 64) := fun m hm => by
    have h1 := nm_right hg (List.mem_of_mem_drop hm)
    exact ⟨h1, (rightB_size h1).2⟩
  have HLN : Hid ((ms.drop (posK LM.nm ms s)).length ≤ 200) := by show _ ≤ _; have := hg.len; rw [List.length_drop]; omega
  obtain ⟨L, hL⟩ : ∃ L, ms.drop (posK LM.nm ms s) = L := ⟨_, rfl⟩
  rw [hL] at HF HIL HRD HRN HLN
  rw [← HIL.out]
  clear h hb1 hL hg
  refine (callsIn_wide (n := 6)).1 ?_
  refine callsIn_of_wp_marks Tryd.func19 rfl trivial ?_ rfl
  simp only [Tryd.ntmps19, List.size_toArray, List.length_cons, List.length_nil, Nat.reduceAdd, Nat.reduceSub, Array.replicate_succ, Array.replicate_zero, List.push_toArray, List.append_toArray, List.nil_append, List.cons_append]
  refine wpIn_wide.2 ?_
  go_wp2
  repeat (go_step3; go_wp2_with (go_at_call 37; refine HF.out.mono ?_; rintro e w2 ⟨b, bl, rfl, hq, hbge, hblt, hbel⟩; have HQ := Lib.hid hq; have HB2 := Lib.hid hbel; have HBG := Lib.hid hbge; have HBT := Lib.hid hblt; clear hq hbge hblt hbel HF))
  refine (wpIn_wide (n := 6)).1 ?_
  have HX2 : Hid (Boxed w2 (w.heap.size + 1) 22 (.slice none 0 0)) := (HB2.out.block _ (by have := HZ1.out; omega)).trans HX1.out
  have hz2 := HB2.out.size
  have hL2 : Hid (Below w.heap.size w w2) := HB1.out.trans (HB2.out.mono (by have := HZ1.out; omega))
  obtain ⟨A5, c5, hbx, hro⟩ := HQ.out.box
  obtain ⟨LN, hLN⟩ := nm_lift L (fun m hm => Nat.le_trans (HRN.out m hm).2 (by unfold maxLen; omega))
  have hblt : 0 < L.length → bl < w.heap.size := fun hp => own_lt HIX.out.own _ (HBT.out hp)
  have hbge := HBG.out
  have hz1' := HZ1.out
  have hseq : SeqStopsK Fence.wide 5 Tryd.prog 47 #[.pointer (some ⟨b, 0, none⟩)] (fun m : NM => #[aggM m.1]) (KpB (w.heap.size + 1) (w.heap.size + 1)) (fun xs => xs = LN) (fun pre => pre <+: LN) 1000001 w2 := by
    have e1 : LN.length = L.length := by rw [← hLN, List.length_map]
    rw [← hLN] at hro
    by_cases hp : 0 < L.length
    · exact vals_seq (fun m : NM => m.1) (w.heap.size + 1) (w.heap.size + 1) b bl A5 L.length c5 LN w2 e1 (by have := HLN.out; omega) (by omega) (by omega) (by omega) (by have := hblt hp; omega) hbx (fun h => hro (by rw [List.length_map, e1]; exact h)) (fun k hk => by rw [ownOf_box HX2.out] at hk; cases hk) (fun hp => by have := hblt hp; omega)
    · exact vals_seq (fun m : NM => m.1) (w.heap.size + 1) (w.heap.size + 1) b w.heap.size A5 L.length c5 LN w2 e1 (by have := HLN.out; omega) (by omega) (by omega) (by omega) (by omega) hbx (fun h => absurd h hp) (fun k hk => by rw [ownOf_box HX2.out] at hk; cases hk) (fun h => absurd h hp)
  refine wpIn_rangeFunc_ownH rfl (by omega) (gf := 47) (lb := #[.pointer (some ⟨b, 0, none⟩)]) rfl trivial (enters_of Tryd.func47 (by kernel_rfl) rfl) hseq
    (fun h k => h.trans k) (fun W l o o' hl ho hc _ => KpB.putObj W l o o' (by omega) (by omega) ho hc) (Below.refl _ _) (fun _ => rfl)
    (fun pre W => (∃ v, Boxed W (w.heap.size + 1) 22 v ∧ W.ownsRow (w.heap.size + 1) 32 7 v (inL s (uN pre)).length (memCells (inL s (uN pre))) ∧ True) ∧ Below (w.heap.size + 1) w2 W)
    (fun cd pre W => (∃ v, Boxed W (w.heap.size + 1) 22 v ∧ W.ownsRow (w.heap.size + 1) 32 7 v (inL s (uN pre)).length (memCells (inL s (uN pre))) ∧ cd = Code.exit 0 ∧ ∃ pr x, pre = pr ++ [x] ∧ inL s (uN pr) ≠ [] ∧ inM s x.1 = false) ∧ Below (w.heap.size + 1) w2 W)
    (OwnFrom.and (Own.from (holdsRow_own (w.heap.size + 1) (w.heap.size + 1) 22 32 7 (fun pre : List NM => (inL s (uN pre)).length) (fun pre => memCells (inL s (uN pre))) (fun _ _ => True)) _) (ownFrom_below (by omega) (by omega)))
    (fun cd => OwnFrom.and (Own.from (holdsRow_own (w.heap.size + 1) (w.heap.size + 1) 22 32 7 (fun pre : List NM => (inL s (uN pre)).length) (fun pre => memCells (inL s (uN pre))) (fun pre _ => cd = Code.exit 0 ∧ ∃ pr x, pre = pr ++ [x] ∧ inL s (uN pr) ≠ [] ∧ inM s x.1 = false)) _) (ownFrom_below (by omega) (by omega)))
    ⟨⟨_, HX2.out, World.ownsRow_nil _ _ _ _, trivial⟩, Below.refl _ _⟩
    (fun x a' W => ∃ Bx, Box W Bx #[.string x.1.nm, .int .i64 x.1.at_, .int .i64 x.1.fr, .int .i64 x.1.ar, .int .i64 x.1.sz, .int .u32 x.1.su, .int .i64 x.1.me] 32 ∧ a' = { tmps := #[.pointer (some ⟨g, 0, none⟩), .string s, undef, .pointer (some ⟨w.heap.size, 0, none⟩), Value.nilFunc, .pointer (some ⟨w.heap.size + 1, 0, none⟩), .pointer (some ⟨Bx, 0, none⟩), .pointer (some ⟨g, 0, none⟩), .string s, .func (.func 47) #[] #[.pointer (some ⟨b, 0, none⟩)], aggM x.1, undef, undef, undef, undef, undef, undef, undef, undef, undef, undef, undef, undef, undef, undef, undef], defers := [] })
    (fun x a' _ X Y row hs hg hr => by
      obtain ⟨Bx, h1, h2⟩ := hs
      refine ⟨Bx, (hg.block Bx (Array.getElem?_eq_some_iff.1 h1).1 (fun e => ?_)).trans h1, h2⟩
      obtain ⟨_, o, ho, hc⟩ := hr Bx e.symm
      rw [show X.heap[Bx]? = _ from h1] at ho; cases ho; cases hc)
    ?assign ?body ?done ?stop
  case assign =>
    rintro l pre x W K hi hK
    gi_wp2
    obtain ⟨⟨v, hv, hrow, _⟩, hB⟩ := hi
    exact hK _ _ ((KeepsOthers.alloc _ _).from _) (kpb_alloc _ (by have := hB.size; omega) hv.lt) ⟨⟨v, hv.alloc _, hrow.alloc _, trivial⟩, hB.alloc (by have := hB.size; omega) _⟩ ⟨W.heap.size, heap_alloc_new W _, rfl⟩
  case body =>
    rintro l pre ⟨x, hxs⟩ a' W hl hr ⟨⟨v, hv, hrow, _⟩, hB⟩ ⟨Bx, hx, rfl⟩ hlt
    simp only at hx
    have hzB := hB.size
    have hvl := hv.lt
    have HVV := Lib.hid hv
    have HRW := Lib.hid hrow
    have HBB := Lib.hid hB
    have HXB := Lib.hid hx
    have f0 : W.cell? ⟨w.heap.size, 0, none⟩ = some (.string s) := ((HS1.out.below HB2.out HS1.out.lt).below hB (by omega)).cell 0
    obtain ⟨c0, c1, c2, c3, c4, c5, c6, _⟩ := box7 hx
    have HIN := Lib.hid (memIn_any s x.nm W hs hxs)
    have HLE : Hid ((inL s (uN pre)).length ≤ pre.length) := by show _ ≤ _; unfold inL uN; exact Nat.le_trans (List.length_filter_le _ _) (by rw [List.length_map]; exact Nat.le_refl _)
    have HSN := Lib.hid (inL_snoc s (uN pre) x)
    have HUN : Hid (uN (pre ++ [(⟨x, hxs⟩ : NM)]) = uN pre ++ [x]) := by show _ = _; unfold uN; simp
    obtain ⟨q, hq⟩ : ∃ q, inF s x.nm = q := ⟨_, rfl⟩
    rw [hq] at HIN
    rw [show inM s x = q from hq] at HSN
    have HQ := Lib.hid hq
    clear hv hrow hB hx hq
    have hle := HLE.out
    cases q with
    | true =>
      rw [if_pos rfl] at HSN
      gi_wp2_with (first
        | (refine ⟨trivial, ?_⟩; gi_at_call 38; refine (CallsIn.inRound l (callsIn_wide.2 HIN.out)).mono ?_; rintro e w1 ⟨rfl, hbel⟩; have HB3 := Lib.hid hbel; have hv1 : Hid (Boxed w1 (w.heap.size + 1) 22 v) := (HB3.out.block _ hvl).trans HVV.out; have hr1 := Lib.hid (own_keep HRW.out (Mod.of_below HB3.out) (fun _ _ hh => hh)); have hc := hv1.out.cell; have hx1 := HXB.out.below HB3.out HXB.out.lt; obtain ⟨k0, k1, k2, k3, k4, k5, k6, _⟩ := box7 hx1; clear hbel; have hz3 := HB3.out.size)
        | (gi_at_builtin; refine wpListIn_app _ memElem rfl _ _ rfl (w.heap.size + 1) v (inL s (uN pre)).length _ rfl (hr1.out.alloc _) (w1.heap.size + 1) (some ⟨w1.heap.size, 0, none⟩) 1 1 x.cells rfl rfl (newCells w1 x) (fun u hu => memsOne [x] u (by simpa using hu)) (by unfold maxLen; omega) (by omega) (by simp; omega) ?_; intro A' c' w3 hap; obtain ⟨hw1, hw2, hw3, hk2, hb2, hkp⟩ := kpbM_append hv1.out hr1.out (by omega) (Nat.le_refl _) hap; have hc1 := hw1.cell; have hf1 := hw1.frozen))
      refine ⟨(keepsFrom_below HB3.out).trans (hk2.from _), (kpb_below HB3.out (by omega) hvl).trans hkp, ⟨_, hw2, ?_, trivial⟩, (HBB.out.trans (HB3.out.mono (by omega))).trans hb2⟩
      rw [HUN.out, HSN.out, memCells_snoc, List.length_append]
      exact hw3
    | false =>
      rw [if_neg (by decide)] at HSN
      obtain ⟨A6, c6', rfl⟩ := own_form' HRW.out
      by_cases h0 : (inL s (uN pre)).length = 0
      · have hd : ¬ (0 : Int) < ((inL s (uN pre)).length : Int) := by omega
        have hd2 : ¬ 0 < (inL s (uN pre)).length := by omega
        clear h0 hle
        gi_wp2_with (refine ⟨trivial, ?_⟩; gi_at_call 38; refine (CallsIn.inRound l (callsIn_wide.2 HIN.out)).mono ?_; rintro e w1 ⟨rfl, hbel⟩; have HB3 := Lib.hid hbel; have hv1 : Hid (Boxed w1 (w.heap.size + 1) 22 _) := (HB3.out.block _ hvl).trans HVV.out; have hr1 := Lib.hid (own_keep HRW.out (Mod.of_below HB3.out) (fun _ _ hh => hh)); have hc := hv1.out.cell; have hx1 := HXB.out.below HB3.out HXB.out.lt; obtain ⟨k0, k1, k2, k3, k4, k5, k6, _⟩ := box7 hx1; clear hbel)
        have hz3 := HB3.out.size
        refine ⟨keepsFrom_below HB3.out, kpb_below HB3.out (by omega) hvl, ⟨_, hv1.out, ?_, trivial⟩, HBB.out.trans (HB3.out.mono (by omega))⟩
        rw [HUN.out, HSN.out]
        exact hr1.out
      · have hd : (0 : Int) < ((inL s (uN pre)).length : Int) := by omega
        have hd2 : 0 < (inL s (uN pre)).length := by omega
        have HNN : Hid (inL s (uN pre) ≠ []) := fun e => h0 (by rw [e]; rfl)
        clear h0 hle
        gi_wp2_with (refine ⟨trivial, ?_⟩; gi_at_call 38; refine (CallsIn.inRound l (callsIn_wide.2 HIN.out)).mono ?_; rintro e w1 ⟨rfl, hbel⟩; have HB3 := Lib.hid hbel; have hv1 : Hid (Boxed w1 (w.heap.size + 1) 22 _) := (HB3.out.block _ hvl).trans HVV.out; have hr1 := Lib.hid (own_keep HRW.out (Mod.of_below HB3.out) (fun _ _ hh => hh)); have hc := hv1.out.cell; have hx1 := HXB.out.below HB3.out HXB.out.lt; obtain ⟨k0, k1, k2, k3, k4, k5, k6, _⟩ := box7 hx1; clear hbel)
        have hz3 := HB3.out.size
        refine ⟨keepsFrom_below HB3.out, ⟨_, hv1.out, ?_, rfl, pre, ⟨x, hxs⟩, rfl, HNN.out, HQ.out⟩, HBB.out.trans (HB3.out.mono (by omega))⟩
        rw [HUN.out, HSN.out]
        exact hr1.out
  case done =>
    rintro D xs W hD rfl ⟨⟨v, hv, hrow, _⟩, hB⟩ hd
    rw [hLN] at hrow
    have hzB := hB.size
    have HL4 := Lib.hid (hL2.out.trans (hB.mono (by omega)))
    obtain ⟨A6, c6', rfl⟩ := own_form' hrow
    obtain ⟨hd5, bl6, hs6, hs7, hs8, hs9⟩ := seqAt_new hv hrow (Nat.le_succ _) HL4.out hd (by omega)
    have HD5 := Lib.hid hd5
    have HS6 := Lib.hid hs6
    have HS7 := Lib.hid hs7
    have HS8 := Lib.hid hs8
    have HS9 := Lib.hid hs9
    have hx5 := hv.cell
    clear hv hrow hB hd hd5 hs6 hs7 hs8 hs9
    go_wp2
    rw [Exit.noGoto_ret]
    refine ⟨by simp, .inl ⟨_, _, rfl, run_takeDeferred HD5.out, ?_⟩⟩
    exact ⟨_, results_tmp rfl _ _ _, W.heap.size, bl6, rfl, HS6.out, HS7.out, HS8.out, HS9.out⟩
  case stop =>
    rintro D cd pre W hD hpre ⟨⟨v, hv, hrow, rfl, pr, x, rfl, hne, hnx⟩, hB⟩ hd
    refine wpIn_exit ?_
    have hin : inL s (uN (pr ++ [x])) = inL s L := by
      obtain ⟨t, ht⟩ := hpre
      have e : L = uN pr ++ x.1 :: uN t := by rw [← hLN, ← ht]; unfold uN; simp
      have e2 : uN (pr ++ [x]) = uN pr ++ [x.1] := by unfold uN; simp
      have hrx := (HRN.out x.1 (by rw [e]; simp)).1
      rw [e2, inL_snoc, if_neg (by rw [hnx]; decide), e, inL_stop (e ▸ HRD.out) hrx hne hnx]
    rw [hin] at hrow
    have hzB := hB.size
    have HL4 := Lib.hid (hL2.out.trans (hB.mono (by omega)))
    obtain ⟨A6, c6', rfl⟩ := own_form' hrow
    obtain ⟨hd5, bl6, hs6, hs7, hs8, hs9⟩ := seqAt_new hv hrow (Nat.le_succ _) HL4.out hd (by omega)
    have HD5 := Lib.hid hd5
    have HS6 := Lib.hid hs6
    have HS7 := Lib.hid hs7
    have HS8 := Lib.hid hs8
    have HS9 := Lib.hid hs9
    have hx5 := hv.cell
    clear hv hrow hB hd hd5 hs6 hs7 hs8 hs9
    rename_i K hK
    refine hK _ _ ?_
    go_wp2
    rw [Exit.noGoto_ret]
    refine ⟨by simp, .inl ⟨_, _, rfl, run_takeDeferred HD5.out, ?_⟩⟩
    exact ⟨_, results_tmp rfl _ _ _, W.heap.size, bl6, rfl, HS6.out, HS7.out, HS8.out, HS9.out⟩
end Go.Proofs.YtjoifgeljjgflaaDoor
/- Layer 24: the names that a folder has. -/
namespace Go.Proofs.YtjoifgeljjgflaaDoor
open Go.RowKit Go.Shelf
attribute [local go_sem] Oper.semAt_some

/-- Names, as a row of texts has them. -/
def nmCells (ms : List LM) : List Value := ms.map fun m => .string m.nm
theorem nmCells_snoc (ms : List LM) (x : LM) : nmCells (ms ++ [x]) = nmCells ms ++ [.string x.nm] := by unfold nmCells; simp
theorem nmElem : Elem Tryd.prog 45 9 (.string ⟨#[]⟩) 1 16 := Elem.of Tryd.underlying45 (by kernel_rfl) rfl (by omega)
theorem nmNew (W : World) (s : ByteArray) : Cells (W.alloc (.cells #[.string s] 9)) (W.heap.size + 1) (some ⟨W.heap.size, 0, none⟩) [.string s] := fun _ =>
  ⟨W.heap.size, 0, rfl, by omega, fun j u hu => by
    rw [Nat.zero_add, cell_of_row _ W.heap.size j _ _ _ (heap_alloc_new W _), ← Array.getElem?_toList]
    exact hu⟩
theorem kpbN_append {W w1 : World} {n B : Nat} {v v' : Value} {k m : Nat} {xs ys : List Value} {tmp : Obj} (hv : Boxed W B 45 v) (hrow : W.ownsRow n 9 1 v k xs) (hn : n ≤ W.heap.size) (hB : n ≤ B) (hap : App (W.alloc tmp) n 9 1 v m ys w1 v') :
    Boxed w1 B 45 v ∧ Boxed (w1.setCell ⟨B, 0, none⟩ v') B 45 v' ∧ (w1.setCell ⟨B, 0, none⟩ v').ownsRow n 9 1 v' m ys ∧ KeepsOthers W (w1.setCell ⟨B, 0, none⟩ v') ∧ Below n W (w1.setCell ⟨B, 0, none⟩ v') ∧ KpB n B W (w1.setCell ⟨B, 0, none⟩ v') := by
  obtain ⟨p1, p2, p3, p4, p5⟩ := hv.appended (by decide) hrow hn hB hap.own hap.grow
  have hs1 := hap.grow.size
  have hs2 : W.heap.size + 1 ≤ w1.heap.size := by simpa using hs1
  refine ⟨p1, p2, p3, p4, p5, p5, fun j o hj ho hjB hno => ?_, fun j hj => ?_, p4.size⟩
  · have hlt := (Array.getElem?_eq_some_iff.1 hj).1
    rw [ownOf_box hv] at hno
    exact (Below.heap_setCell w1 ⟨B, 0, none⟩ v' j hjB).trans ((hap.grow.block j (by simp; omega) (fun e => hno e.symm)).trans ((Below.heap_alloc W tmp j hlt).trans hj))
  · rw [ownOf_box p2] at hj
    rw [ownOf_box hv]
    rcases hap.loc with h | ⟨g, h, hg⟩
    · rw [h] at hj; exact ⟨.inl hj, .inl hj⟩
    · rw [h] at hj
      cases hj
      have hlt := own_lt p3 j h
      refine ⟨.inr (by simp at hg; omega), .inr hlt⟩
set_option maxRecDepth 100000 in
set_option maxHeartbeats 4000000 in
theorem ixUnder_any (base g : Nat) (A : Option Addr) (c : Nat) (ms : List LM) (s : ByteArray) (w : World) (h : LX w base g A c ms) (hg : GoodL ms) (hs : s.size ≤ 1000) : Calls Tryd.prog 18 #[.pointer (some ⟨g, 0, none⟩), .string s] w fun e w' => ∃ v, e = .returned v ∧ w'.ownsRow w.heap.size 9 1 v (inL s ms).length (nmCells (inL s ms)) ∧ Below w.heap.size w w' := by
  obtain ⟨W1, hW1⟩ : ∃ W1, w.alloc (.cells #[.slice none 0 0] 45) = W1 := ⟨_, rfl⟩
  have hb1 : Below w.heap.size w W1 := by rw [← hW1]; exact (Below.refl _ w).alloc (Nat.le_refl _) _
  have hz1 : W1.heap.size = w.heap.size + 1 := by rw [← hW1]; simp
  have HF := Lib.hid (ixEach_any base g A c ms s W1 (h.below hb1 rfl) hg hs)
  have HX1 : Hid (Boxed W1 w.heap.size 45 (.slice none 0 0)) := by rw [← hW1]; exact Boxed.new w _ _
  have HB1 := Lib.hid hb1
  have HZ1 := Lib.hid hz1
  have HLN : Hid ((inL s ms).length ≤ 200) := by show _ ≤ _; exact Nat.le_trans (by unfold inL; exact List.length_filter_le _ _) hg.len
  obtain ⟨L, hL⟩ : ∃ L, inL s ms = L := ⟨_, rfl⟩
  rw [hL] at HF HLN ⊢
  clear h hb1 hg hL
  refine (callsIn_wide (n := 6)).1 ?_
  refine callsIn_of_wp_marks Tryd.func18 rfl trivial ?_ rfl
  simp only [Tryd.ntmps18, List.size_toArray, List.length_cons, List.length_nil, Nat.reduceAdd, Nat.reduceSub, Array.replicate_succ, Array.replicate_zero, List.push_toArray, List.append_toArray, List.nil_append, List.cons_append]
  refine wpIn_wide.2 ?_
  go_wp2_with (go_at_call 19; refine HF.out.mono ?_; rintro e w2 ⟨b, bl, rfl, hq, hbge, hblt, hbel⟩; have HQ := Lib.hid hq; have HB2 := Lib.hid hbel; have HBG := Lib.hid hbge; have HBT := Lib.hid hblt; clear hq hbge hblt hbel HF)
  refine (wpIn_wide (n := 6)).1 ?_
  have HX2 : Hid (Boxed w2 w.heap.size 45 (.slice none 0 0)) := (HB2.out.block _ (by have := HZ1.out; omega)).trans HX1.out
  have hz2 := HB2.out.size
  have hL2 : Hid (Below w.heap.size w w2) := HB1.out.trans (HB2.out.mono (by have := HZ1.out; omega))
  obtain ⟨A5, c5, hbx, hro⟩ := HQ.out.box
  have hbl2 := HQ.out.lt
  have hbge := HBG.out
  have hblt := HBT.out
  have hz1' := HZ1.out
  have hseq : SeqStopsK Fence.wide 5 Tryd.prog 47 #[.pointer (some ⟨b, 0, none⟩)] (fun m : LM => #[aggM m]) (KpB w.heap.size w.heap.size) (fun xs => xs = L) (fun pre => pre <+: L) 1000001 w2 := by
    by_cases hp : 0 < L.length
    · exact vals_seq (fun m : LM => m) w.heap.size w.heap.size b bl A5 L.length c5 L w2 rfl (by have := HLN.out; omega) (by omega) (by omega) (by omega) (by have := hblt hp; omega) hbx (fun h => by rw [List.map_id']; exact hro h) (fun k hk => by rw [ownOf_box HX2.out] at hk; cases hk) hbl2
    · exact vals_seq (fun m : LM => m) w.heap.size w.heap.size b (w.heap.size + 1) A5 L.length c5 L w2 rfl (by have := HLN.out; omega) (by omega) (by omega) (by omega) (by omega) hbx (fun h => absurd h hp) (fun k hk => by rw [ownOf_box HX2.out] at hk; cases hk) (fun h => absurd h hp)
  refine wpIn_rangeFunc_ownH rfl (by omega) (gf := 47) (lb := #[.pointer (some ⟨b, 0, none⟩)]) rfl trivial (enters_of Tryd.func47 (by kernel_rfl) rfl) hseq
    (fun h k => h.trans k) (fun W l o o' hl ho hc _ => KpB.putObj W l o o' (by omega) (by omega) ho hc) (Below.refl _ _) (fun _ => rfl)
    (fun pre W => (∃ v, Boxed W w.heap.size 45 v ∧ W.ownsRow w.heap.size 9 1 v pre.length (nmCells pre) ∧ True) ∧ Below w.heap.size w2 W)
    (fun _ _ _ => False)
    (OwnFrom.and (Own.from (holdsRow_own w.heap.size w.heap.size 45 9 1 (fun pre : List LM => pre.length) (fun pre => nmCells pre) (fun _ _ => True)) _) (ownFrom_below (by omega) (by omega)))
    (fun _ _ _ _ _ h _ _ => h)
    ⟨⟨_, HX2.out, World.ownsRow_nil _ _ _ _, trivial⟩, Below.refl _ _⟩
    (fun x a' W => ∃ Bx, Box W Bx #[.string x.nm, .int .i64 x.at_, .int .i64 x.fr, .int .i64 x.ar, .int .i64 x.sz, .int .u32 x.su, .int .i64 x.me] 32 ∧ a' = { tmps := #[.pointer (some ⟨g, 0, none⟩), .string s, undef, undef, .slice none 0 0, .pointer (some ⟨w.heap.size, 0, none⟩), .pointer (some ⟨Bx, 0, none⟩), .pointer (some ⟨g, 0, none⟩), .string s, .func (.func 47) #[] #[.pointer (some ⟨b, 0, none⟩)], aggM x, undef, undef, undef, undef, undef, undef], defers := [] })
    (fun x a' _ X Y row hs hg hr => by
      obtain ⟨Bx, h1, h2⟩ := hs
      refine ⟨Bx, (hg.block Bx (Array.getElem?_eq_some_iff.1 h1).1 (fun e => ?_)).trans h1, h2⟩
      obtain ⟨_, o, ho, hc⟩ := hr Bx e.symm
      rw [show X.heap[Bx]? = _ from h1] at ho; cases ho; cases hc)
    ?assign ?body ?done ?stop
  case assign =>
    rintro l pre x W K hi hK
    gi_wp2
    obtain ⟨⟨v, hv, hrow, _⟩, hB⟩ := hi
    exact hK _ _ ((KeepsOthers.alloc _ _).from _) (kpb_alloc _ (by have := hB.size; omega) hv.lt) ⟨⟨v, hv.alloc _, hrow.alloc _, trivial⟩, hB.alloc (by have := hB.size; omega) _⟩ ⟨W.heap.size, heap_alloc_new W _, rfl⟩
  case body =>
    rintro l pre x a' W hl hr ⟨⟨v, hv, hrow, _⟩, hB⟩ ⟨Bx, hx, rfl⟩ hlt
    have hc := hv.cell
    obtain ⟨c0, c1, c2, c3, c4, c5, c6, _⟩ := box7 hx
    have hzB := hB.size
    clear hx
    gi_wp2_with (gi_at_builtin; refine wpListIn_app _ nmElem rfl _ _ rfl w.heap.size v pre.length _ rfl (hrow.alloc _) (W.heap.size + 1) (some ⟨W.heap.size, 0, none⟩) 1 1 [.string x.nm] rfl rfl (nmNew W x.nm) (by simp [Value.oneCell']) (by unfold maxLen; omega) (by omega) (by simp; omega) ?_; intro A' c' w3 hap; obtain ⟨hw1, hw2, hw3, hk2, hb2, hkp⟩ := kpbN_append hv hrow (by omega) (Nat.le_refl _) hap; have hc1 := hw1.cell; have hf1 := hw1.frozen)
    refine ⟨hk2.from _, hkp, ⟨_, hw2, ?_, trivial⟩, hB.trans hb2⟩
    rw [nmCells_snoc, List.length_append]
    exact hw3
  case done =>
    rintro D ys W hD rfl ⟨⟨v, hv, hrow, _⟩, hB⟩ hK
    have hc := hv.cell
    go_wp2
    refine ⟨by simp, .inl ⟨_, _, rfl, run_takeDeferred hK, ?_⟩⟩
    exact ⟨_, results_tmp rfl _ _ _, v, rfl, ownsRow_putObj hrow _ hK rfl, below_put (hL2.out.trans hB) (by omega) _⟩
  case stop =>
    rintro D c pre W _ _ h _
    exact h.elim
end Go.Proofs.YtjoifgeljjgflaaDoor
