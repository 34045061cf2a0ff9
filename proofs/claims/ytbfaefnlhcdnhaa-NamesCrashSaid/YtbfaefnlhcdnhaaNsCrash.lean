/- Layer 5: the law NamesCrash. -/
import Derived.Test.YtbfaefnlhcdnhaaNsMoved
namespace Go.Proofs.Ytbfaefnlhcdnhaa
open Go.RowKit Go.Maps

/-- Two pairs of directories, in the same state. -/
structure TwoN (w : World) (B : Nat) (wr : World) (d e r q : Nat) (F1 G1 F2 G2 : Nat → Prop) (s : Nst) (k : Nat) : Prop where
  one : BothN wr d r F1 G1 s
  two : BothN wr e q F2 G2 s
  ap : ∀ j, orS F1 G1 j → ¬ orS F2 G2 j
  many : s.many ≤ k
  ge1 : ∀ j, orS F1 G1 j → B ≤ j
  ge2 : ∀ j, orS F2 G2 j → B ≤ j
  bel : Below B w wr
theorem BothN.keep {w W : World} {d r : Nat} {F G S : Nat → Prop} {s : Nst} (h : BothN w d r F G s) (hm : Mod S w W) (hS : ∀ k, orS F G k → ¬ S k) : BothN W d r F G s := ⟨h.dir.keep hm (fun k hk => hS k (.inl hk)), h.ref.keep hm (fun k hk => hS k (.inr hk)), h.apart, h.ok⟩
theorem BothN.lt {w : World} {d r : Nat} {F G : Nat → Prop} {s : Nst} (h : BothN w d r F G s) : ∀ k, orS F G k → k < w.heap.size := fun k hk => by
  rcases hk with hk | hk
  · exact h.dir.lt k hk
  · exact h.ref.lt k hk
theorem Went.new {w w' : World} {d r : Nat} {F G : Nat → Prop} {s : Nst} {F' G' : Nat → Prop} (h : Went w w' d r F G s F' G') : ∀ k, orS F' G' k → orS F G k ∨ w.heap.size ≤ k := fun k hk => by
  rcases hk with hk | hk
  · rcases h.nf k hk with h' | h'
    · exact .inl (.inl h')
    · exact .inr h'
  · rcases h.ng k hk with h' | h'
    · exact .inl (.inr h')
    · exact .inr h'
/-- Both go on. -/
theorem TwoN.went {w : World} {B : Nat} {wr w1 w2 : World} {d e r q : Nat} {F1 G1 F2 G2 F1' G1' F2' G2' : Nat → Prop} {s s' : Nst} {k : Nat} (h : TwoN w B wr d e r q F1 G1 F2 G2 s k) (hB : B ≤ wr.heap.size)
    (h1 : Went wr w1 d r F1 G1 s' F1' G1') (h2 : Went w1 w2 e q F2 G2 s' F2' G2') (hm : s'.many ≤ k + 1) : TwoN w B w2 d e r q F1' G1' F2' G2' s' (k + 1) := by
  have hap : ∀ j, orS F1' G1' j → ¬ orS F2 G2 j := fun j hj hk => by
    rcases h1.new j hj with h' | h'
    · exact h.ap j h' hk
    · have := h.two.lt j hk; omega
  refine ⟨h1.both.keep h2.mod (fun j hj => hap j hj), h2.both, fun j hj hk => ?_, hm, fun j hj => ?_, fun j hj => ?_, ?_⟩
  · rcases h2.new j hk with h' | h'
    · exact hap j hj h'
    · have := h1.both.lt j hj; omega
  · rcases h1.new j hj with h' | h'
    · exact h.ge1 j h'
    · omega
  · rcases h2.new j hj with h' | h'
    · exact h.ge2 j h'
    · have := h1.mod.size; omega
  · exact h2.mod.below (h1.mod.below h.bel hB h.ge1) (Nat.le_trans hB h1.mod.size) h.ge2
/-- The second one, behind a call of the first. -/
theorem TwoN.mid {w : World} {B : Nat} {wr w1 : World} {d e r q : Nat} {F1 G1 F2 G2 F1' G1' : Nat → Prop} {s s' : Nst} {k : Nat} (h : TwoN w B wr d e r q F1 G1 F2 G2 s k) (hB : B ≤ wr.heap.size)
    (h1 : Went wr w1 d r F1 G1 s' F1' G1') : BothN w1 e q F2 G2 s ∧ Below B w w1 := ⟨h.two.keep h1.mod (fun j hj hk => h.ap j hk hj), h1.mod.below h.bel hB h.ge1⟩
theorem Nst.Ok.synced {s : Nst} (h : s.Ok) : (Nst.mk s.now [] s.past s.past.length).Ok := ⟨h.now_ris, h.now_none, h.now_sz, (fun c hc => by cases hc), rfl, fun i hi => absurd hi (Nat.not_lt_zero _)⟩
def dirZ : Obj := .cells #[.map none, .map none, .slice none 0 0] 28
def refZ : Obj := .cells #[.slice none 0 0, .slice none 0 0] 32
theorem two_new (w : World) : TwoN w w.heap.size ((((w.alloc dirZ).alloc dirZ).alloc refZ).alloc refZ) w.heap.size (w.heap.size + 1) (w.heap.size + 2) (w.heap.size + 3) (oneB w.heap.size) (oneB (w.heap.size + 2)) (oneB (w.heap.size + 1)) (oneB (w.heap.size + 3)) s00 0 := by
  obtain ⟨B, hB⟩ : ∃ B, w.heap.size = B := ⟨_, rfl⟩
  obtain ⟨W1, hW1⟩ : ∃ W1, w.alloc dirZ = W1 := ⟨_, rfl⟩
  obtain ⟨W2, hW2⟩ : ∃ W2, W1.alloc dirZ = W2 := ⟨_, rfl⟩
  obtain ⟨W3, hW3⟩ : ∃ W3, W2.alloc refZ = W3 := ⟨_, rfl⟩
  obtain ⟨W4, hW4⟩ : ∃ W4, W3.alloc refZ = W4 := ⟨_, rfl⟩
  have z1 : W1.heap.size = B + 1 := by rw [← hW1, World.size_alloc, hB]
  have z2 : W2.heap.size = B + 2 := by rw [← hW2, World.size_alloc, z1]
  have z3 : W3.heap.size = B + 3 := by rw [← hW3, World.size_alloc, z2]
  have x1 : W1.heap[B]? = some dirZ := by rw [← hW1, ← hB]; exact heap_alloc_new w _
  have x2 : W2.heap[B + 1]? = some dirZ := by rw [← hW2, ← z1]; exact heap_alloc_new W1 _
  have x3 : W3.heap[B + 2]? = some refZ := by rw [← hW3, ← z2]; exact heap_alloc_new W2 _
  have x4 : W4.heap[B + 3]? = some refZ := by rw [← hW4, ← z3]; exact heap_alloc_new W3 _
  have b2 : Below W1.heap.size W1 W2 := by rw [← hW2]; exact (Below.refl _ W1).alloc (Nat.le_refl _) _
  have b3 : Below W2.heap.size W2 W3 := by rw [← hW3]; exact (Below.refl _ W2).alloc (Nat.le_refl _) _
  have b4 : Below W3.heap.size W3 W4 := by rw [← hW4]; exact (Below.refl _ W3).alloc (Nat.le_refl _) _
  have y1 : W4.heap[B]? = some dirZ := (b4.block B (by omega)).trans ((b3.block B (by omega)).trans ((b2.block B (by omega)).trans x1))
  have y2 : W4.heap[B + 1]? = some dirZ := (b4.block _ (by omega)).trans ((b3.block _ (by omega)).trans x2)
  have y3 : W4.heap[B + 2]? = some refZ := (b4.block _ (by omega)).trans x3
  have hbel : Below w.heap.size w W4 := by
    have b1 : Below w.heap.size w W1 := by rw [← hW1]; exact (Below.refl _ w).alloc (Nat.le_refl _) _
    exact ((b1.trans (b2.mono (by omega))).trans (b3.mono (by omega))).trans (b4.mono (by omega))
  rw [hW1, hW2, hW3, hW4]
  rw [hB] at hbel ⊢
  refine ⟨⟨dir_new y1, ref_new y3, fun k hk hg => ?_, s00_ok⟩, ⟨dir_new y2, ref_new x4, fun k hk hg => ?_, s00_ok⟩, fun j hj hk => ?_, Nat.le_refl _, fun j hj => ?_, fun j hj => ?_, hbel⟩
  · have e1 : k = B := hk
    have e2 : k = B + 2 := hg
    omega
  · have e1 : k = B + 1 := hk
    have e2 : k = B + 3 := hg
    omega
  · rcases hj with hj | hj <;> rcases hk with hk | hk
    · have e1 : j = B := hj
      have e2 : j = B + 1 := hk
      omega
    · have e1 : j = B := hj
      have e2 : j = B + 3 := hk
      omega
    · have e1 : j = B + 2 := hj
      have e2 : j = B + 1 := hk
      omega
    · have e1 : j = B + 2 := hj
      have e2 : j = B + 3 := hk
      omega
  · rcases hj with hj | hj
    · have e1 : j = B := hj
      omega
    · have e1 : j = B + 2 := hj
      omega
  · rcases hj with hj | hj
    · have e1 : j = B + 1 := hj
      omega
    · have e1 : j = B + 3 := hj
      omega
theorem two_sync {w : World} {B : Nat} {wr w2 w3 : World} {d e r q : Nat} {F1 G1 F2 G2 F3 F4 : Nat → Prop} {s : Nst} {k : Nat} {L : List Nt} (h : TwoN w B wr d e r q F1 G1 F2 G2 s k) (hB : B ≤ wr.heap.size) (hL : s.now = L)
    (hd : DirS w2 d F3 L L []) (hs : StepF F1 F3 wr w2) (he : DirS w3 e F4 L L []) (hs2 : StepF F2 F4 w2 w3) : TwoN w B w3 d e r q F3 G1 F4 G2 ⟨L, [], s.past, s.past.length⟩ (2 * k) := by
  have hok : (Nst.mk L [] s.past s.past.length).Ok := by rw [← hL]; exact h.one.ok.synced
  have hnl := h.one.ok.now_len
  have hpl := h.one.ok.len
  have hmn := h.many
  have hdef : s.many = s.safe.length + s.ws.length + s.pre := rfl
  have f3 : ∀ j, F3 j → ¬ F2 j := fun j hj hk => by
    rcases hs.new j hj with h' | h'
    · exact h.ap j (.inl h') (.inl hk)
    · have := h.two.dir.lt j hk; omega
  have hr1 : RefS w3 r G1 L s.past := by
    have h1 := (h.one.ref.keep hs.mod (fun j hg hf => h.one.apart j hf hg)).keep hs2.mod (fun j hg hf => h.ap j (.inr hg) (.inl hf))
    rw [hL] at h1
    exact h1
  have hr2 : RefS w3 q G2 L s.past := by
    have h1 := (h.two.ref.keep hs.mod (fun j hg hf => h.ap j (.inl hf) (.inr hg))).keep hs2.mod (fun j hg hf => h.two.apart j hf hg)
    rw [hL] at h1
    exact h1
  have n1 : ∀ j, orS F3 G1 j → orS F1 G1 j ∨ wr.heap.size ≤ j := fun j hj => by
    rcases hj with hj | hj
    · rcases hs.new j hj with h' | h'
      · exact .inl (.inl h')
      · exact .inr h'
    · exact .inl (.inr hj)
  have n2 : ∀ j, orS F4 G2 j → orS F2 G2 j ∨ w2.heap.size ≤ j := fun j hj => by
    rcases hj with hj | hj
    · rcases hs2.new j hj with h' | h'
      · exact .inl (.inl h')
      · exact .inr h'
    · exact .inl (.inr hj)
  have lt1 : ∀ j, orS F3 G1 j → j < w2.heap.size := fun j hj => by
    rcases hj with hj | hj
    · exact hd.lt j hj
    · exact Nat.lt_of_lt_of_le (h.one.ref.lt j hj) hs.mod.size
  refine ⟨⟨hd.keep hs2.mod f3, hr1, fun j hj hg => ?_, hok⟩, ⟨he, hr2, fun j hj hg => ?_, hok⟩, fun j hj hk => ?_, ?_, fun j hj => ?_, fun j hj => ?_, ?_⟩
  · rcases hs.new j hj with h' | h'
    · exact h.one.apart j h' hg
    · have := h.one.ref.lt j hg; omega
  · rcases hs2.new j hj with h' | h'
    · exact h.two.apart j h' hg
    · have := h.two.ref.lt j hg; have := hs.mod.size; omega
  · rcases n2 j hk with h' | h'
    · rcases n1 j hj with h'' | h''
      · exact h.ap j h'' h'
      · have := h.two.lt j h'; omega
    · have := lt1 j hj; omega
  · show L.length + 0 + s.past.length ≤ 2 * k
    rw [← hL]
    omega
  · rcases n1 j hj with h' | h'
    · exact h.ge1 j h'
    · omega
  · rcases n2 j hj with h' | h'
    · exact h.ge2 j h'
    · have := hs.mod.size; omega
  · exact hs2.mod.below (hs.mod.below h.bel hB (fun j hj => h.ge1 j (.inl hj))) (Nat.le_trans hB hs.mod.size) (fun j hj => h.ge2 j (.inl hj))
/-- A row of names stays, behind blocks that it doesn't lie in. -/
theorem row_mod {w w' : World} {base n : Nat} {e : TypeId} {v : Value} {xs : List Value} {S S' : Nat → Prop} (h : w.ownsRow base e 1 v n xs) (hd : ∀ t, ownS v t → ¬ S t) (hm : Mod S w w') (hn : ∀ t, S' t → S t ∨ w.heap.size ≤ t) : w'.ownsRow base e 1 v n xs ∧ ∀ t, ownS v t → ¬ S' t :=
  ⟨own_keep h hm hd, fun t ht hs => by
    rcases hn t hs with h' | h'
    · exact hd t ht h'
    · have := (h.lt t ht).2; omega⟩
theorem opN_safe {s : Nst} {L : List Nt} (h : s.safe = L) (kind : Int) (a b : ByteArray) (n : Int) (hk : kind = 0 ∨ kind = 1 ∨ kind = 2) : (opN s kind a b n).safe = L := by
  have hp : ∀ (E : Int) (c : Ch), (pickS E s c).safe = L := fun E c => by
    unfold pickS
    split
    · exact h
    · exact h
  unfold opN
  rcases hk with rfl | rfl | rfl
  · rw [if_pos rfl]; exact hp _ _
  · rw [if_neg (by decide), if_pos rfl]; exact hp _ _
  · rw [if_neg (by decide), if_neg (by decide), if_pos rfl]; exact hp _ _
set_option maxRecDepth 100000 in
set_option maxHeartbeats 2000000 in
theorem crash5l_any (A A2 : Option Addr) (l c l2 c2 : Nat) (xs ys : List LOp) (w : World) (hl : xs.length = l) (hb : Cells w w.heap.size A (opCells xs)) (hn : ∀ x ∈ xs, (Lit.int .i64 x.n).wf = true) (hl2 : ys.length = l2) (hb2 : Cells w w.heap.size A2 (opCells ys)) (hn2 : ∀ x ∈ ys, (Lit.int .i64 x.n).wf = true) :
    Calls Try.prog 5 #[.slice A l c, .slice A2 l2 c2] w fun e w' => e = .returned (.bool true) ∧ Below w.heap.size w w' := by
  have HL := Lib.hid hl
  have HC := Lib.hid hb
  have HN := Lib.hid hn
  have HL2 := Lib.hid hl2
  have HC2 := Lib.hid hb2
  have HN2 := Lib.hid hn2
  have HG := Lib.hid (great5_any A l c xs w.heap.size w hl hb)
  have HG2 := Lib.hid (great5_any A2 l2 c2 ys w.heap.size w hl2 hb2)
  have HLV : Hid (∀ W, Below w.heap.size w W → Calls Try.prog 8 #[] W fun e w' => e = .returned (.bool true) ∧ Below w.heap.size w w') := fun W hW => (lives5_any W).mono fun e w' h => ⟨h.1, hW.trans (h.2.mono hW.size)⟩
  have HGN := Lib.hid (two_new w)
  clear hl hb hn hl2 hb2 hn2
  go_enter Try.func5, Try.ntmps5
  go_wp2_with fail
  refine HG.out.mono ?_
  rintro e w1 ⟨o1, rfl, hw1, ho1⟩
  subst hw1
  cases o1 with
  | true =>
    go_wp2_with fail
    refine (HLV.out _ (Below.refl _ _)).mono ?_
    rintro e wL ⟨rfl, hbL⟩
    go_wp2
    go_ret
    exact ⟨rfl, hbL⟩
  | false =>
    have HO := Lib.hid (ho1 rfl)
    clear ho1
    go_wp2_with fail
    refine HG2.out.mono ?_
    rintro e w1 ⟨o1, rfl, hw1, ho1⟩
    subst hw1
    cases o1 with
    | true =>
      go_wp2_with fail
      refine (HLV.out _ (Below.refl _ _)).mono ?_
      rintro e wL ⟨rfl, hbL⟩
      go_wp2
      go_ret
      exact ⟨rfl, hbL⟩
    | false =>
      have HO2 := Lib.hid (ho1 rfl)
      have hl60 : l ≤ 60 := by have := HO.out.1; have := HL.out; omega
      have hl260 : l2 ≤ 60 := by have := HO2.out.1; have := HL2.out; omega
      obtain ⟨B, hB⟩ : ∃ B, w.heap.size = B := ⟨_, rfl⟩
      have HBB := Lib.hid hB
      clear ho1
      go_wp2
      go_loopg [9] l (fun gk i wr => ∃ (k : Nat) (F1 G1 F2 G2 : Nat → Prop) (s : Nst), k + gk = l ∧ i = .int .i64 k ∧ s.pre = 0 ∧ TwoN w w.heap.size wr w.heap.size (w.heap.size + 1) (w.heap.size + 2) (w.heap.size + 3) F1 G1 F2 G2 s k)
      case atStart => exact ⟨0, _, _, _, _, s00, by omega, rfl, rfl, HGN.out⟩
      case round =>
        obtain ⟨k, F1, G1, F2, G2, s, hk, rfl, hpre, hgo⟩ := hrel
        have HGO := Lib.hid hgo
        rw [hB] at HGO HLV
        clear hgo
        have hBs : B ≤ wr.heap.size := by have := HGO.out.bel.size; omega
        by_cases h : k < l
        · obtain ⟨x, hx⟩ : ∃ x, xs[k]? = some x := ⟨_, List.getElem?_eq_getElem (by have := HL.out; omega)⟩
          obtain ⟨b', o, rfl, hbB, hc⟩ := HC.out (by rw [op_len]; have := HL.out; omega)
          have HCW : Hid (∀ W, Below B w W → _) := fun W hW => op_at (fun j u hj => (hW.cell (p := ⟨b', o + j, none⟩) (by rw [← hB]; exact hbB)).trans (hc j u hj)) hx
          obtain ⟨c0, c1, c2', c3⟩ := HCW.out wr HGO.out.bel
          have hxm := List.mem_of_getElem? hx
          have HXS := Lib.hid (HO.out.2 x hxm)
          have HDO := Lib.hid (fun (d r : Nat) (F G : Nat → Prop) (W : World) (hW : BothN W d r F G s) => does_any d r F G s x W hW (by have := HGO.out.many; omega) (by have := HXS.out.1; omega) (by have := HXS.out.2; omega) (HN.out x hxm) (.inl hpre))
          have hki : (k : Int) < (l : Int) := by omega
          have hw1 : IntKind.i64.wrap ((k : Int) + 1) = (k : Int) + 1 := IntWalk.i64_in _ (by omega)
          have HPR := Lib.hid (opN_pre hpre x.kind x.a x.b x.n)
          have HMA := Lib.hid (opN_many HGO.out.one.ok x.kind x.a x.b x.n)
          clear hc hx hxm hpre
          go_wp2_with fail
          refine (HDO.out _ _ _ _ wr HGO.out.one).mono ?_
          rintro e w5 ⟨rfl, F1', G1', hwt⟩
          obtain ⟨hmid, hbel5⟩ := HGO.out.mid hBs hwt
          have HW5 := Lib.hid hwt
          clear c0 c1 c2' c3
          obtain ⟨c0, c1, c2', c3⟩ := HCW.out w5 hbel5
          have HMD := Lib.hid hmid
          clear hwt hmid hbel5
          go_wp2_with fail
          refine (HDO.out _ _ _ _ w5 HMD.out).mono ?_
          rintro e w6 ⟨rfl, F2', G2', hwt⟩
          have HG6 := Lib.hid (HGO.out.went hBs HW5.out hwt (by have := HGO.out.many; have := HMA.out; omega))
          clear hwt
          go_wp2
          go_roundg (gk - 1)
          case measure => omega
          case rel => exact ⟨k + 1, F1', G1', F2', G2', _, by omega, by go_num, HPR.out, by rw [HBB.out]; exact HG6.out⟩
        · obtain rfl : k = l := by omega
          obtain ⟨L, hL⟩ : ∃ L, s.now = L := ⟨_, rfl⟩
          have hLl : L.length ≤ 60 := by rw [← hL]; have := HGO.out.one.ok.now_len; have := HGO.out.many; have := s.ws_le; omega
          have hLr : Ris Nt.nm L := by rw [← hL]; exact HGO.out.one.ok.now_ris
          have hds := HGO.out.one.dir
          rw [hL] at hds
          have HSY := Lib.hid (sync5_any B F1 L s.safe s.ws wr hds)
          clear hds
          go_wp2_with fail
          refine HSY.out.mono ?_
          rintro e w2 ⟨rfl, F3, hd3, hs3⟩
          have HD3 := Lib.hid hd3
          have HS3 := Lib.hid hs3
          have hde := HGO.out.two.dir.keep hs3.mod (fun j hj hk => HGO.out.ap j (.inl hk) (.inl hj))
          rw [hL] at hde
          have HSY2 := Lib.hid (sync5_any (B + 1) F2 L s.safe s.ws w2 hde)
          clear hd3 hs3 hde HSY
          go_wp2_with fail
          refine HSY2.out.mono ?_
          rintro e w3 ⟨rfl, F4, hd4, hs4⟩
          have HD4 := Lib.hid hd4
          have HS4 := Lib.hid hs4
          clear hd4 hs4 HSY2
          have HT3 := Lib.hid (two_sync HGO.out hBs hL HD3.out HS3.out HD4.out HS4.out)
          have hBs3 : B ≤ w3.heap.size := by have := HT3.out.bel.size; omega
          have HNM := Lib.hid (names5_any B F3 L L [] w3 HT3.out.one.dir hLr (by omega))
          clear hL
          go_wp2_with fail
          refine HNM.out.mono ?_
          rintro e w4 ⟨A4, c4, rfl, ho4, hb4⟩
          have HO4 := Lib.hid ho4
          have HT4 : Hid (TwoN w B w4 B (B + 1) (B + 2) (B + 3) F3 G1 F4 G2 ⟨L, [], s.past, s.past.length⟩ 120) := ⟨HT3.out.one.keep0 (Mod.of_below hb4), HT3.out.two.keep0 (Mod.of_below hb4), HT3.out.ap, by have := HT3.out.many; omega, HT3.out.ge1, HT3.out.ge2, HT3.out.bel.trans (hb4.mono hBs3)⟩
          have HAP : Hid (∀ t, ownS (.slice A4 L.length c4) t → ¬ orS (orS F3 G1) (orS F4 G2) t) := fun t ht hS => by
            have h1 := (ho4.lt t ht).1
            rcases hS with hS | hS
            · have := HT3.out.one.lt t hS; omega
            · have := HT3.out.two.lt t hS; omega
          clear ho4 hb4 HNM
          obtain ⟨base, hbase⟩ : ∃ base, w3.heap.size = base := ⟨_, rfl⟩
          rw [hbase] at HO4
          clear hbase
          obtain ⟨pst, hpst⟩ : ∃ pst, s.past = pst := ⟨_, rfl⟩
          rw [hpst] at HT4
          clear hpst
          obtain ⟨GK, hGK⟩ : ∃ GK, GK = gk := ⟨_, rfl⟩
          go_wp2
          go_loopg [11] l2 (fun gk i wr => ∃ (j : Nat) (F1 G1 F2 G2 : Nat → Prop) (s : Nst), j + gk = l2 ∧ i = .int .i64 j ∧ s.safe = L ∧ TwoN w B wr B (B + 1) (B + 2) (B + 3) F1 G1 F2 G2 s (120 + j) ∧ wr.ownsRow base 9 1 (.slice A4 L.length c4) L.length (nmCells L) ∧ ∀ t, ownS (.slice A4 L.length c4) t → ¬ orS (orS F1 G1) (orS F2 G2) t)
          case atStart => exact ⟨0, _, _, _, _, _, by omega, rfl, rfl, HT4.out, HO4.out, HAP.out⟩
          case round =>
            obtain ⟨j, F5, G5, F6, G6, s5, hj, rfl, hsf, hgo5, hro5, hap5⟩ := hrel
            have HG5 := Lib.hid hgo5
            have HR5 := Lib.hid hro5
            have HA5 := Lib.hid hap5
            have HSF := Lib.hid hsf
            clear hgo5 hro5 hap5 hsf
            have hBs5 : B ≤ wr.heap.size := by have := HG5.out.bel.size; omega
            by_cases h2 : j < l2
            · obtain ⟨x, hx⟩ : ∃ x, ys[j]? = some x := ⟨_, List.getElem?_eq_getElem (by have := HL2.out; omega)⟩
              obtain ⟨b', o, rfl, hbB, hc⟩ := HC2.out (by rw [op_len]; have := HL2.out; omega)
              have HCW : Hid (∀ W, Below B w W → _) := fun W hW => op_at (fun j u hj => (hW.cell (p := ⟨b', o + j, none⟩) (by rw [← hB]; exact hbB)).trans (hc j u hj)) hx
              obtain ⟨c0, c1, c2', c3⟩ := HCW.out wr HG5.out.bel
              have hxm := List.mem_of_getElem? hx
              have HXS := Lib.hid (HO2.out.2 x hxm)
              have hki : (j : Int) < (l2 : Int) := by omega
              have hw1 : IntKind.i64.wrap ((j : Int) + 1) = (j : Int) + 1 := IntWalk.i64_in _ (by omega)
              have HXN := Lib.hid (HN2.out x hxm)
              clear hc hx hxm
              by_cases hk0 : 0 ≤ x.kind
              · by_cases hk2 : x.kind ≤ 2
                · have hkk : x.kind = 0 ∨ x.kind = 1 ∨ x.kind = 2 := by omega
                  have HDO := Lib.hid (fun (d r : Nat) (F G : Nat → Prop) (W : World) (hW : BothN W d r F G s5) => does_any d r F G s5 x W hW (by have := HG5.out.many; omega) (by have := HXS.out.1; omega) (by have := HXS.out.2; omega) HXN.out (.inr hkk))
                  have HMA := Lib.hid (opN_many HG5.out.one.ok x.kind x.a x.b x.n)
                  have HSA := Lib.hid (opN_safe HSF.out x.kind x.a x.b x.n hkk)
                  clear hkk
                  go_wp2_with fail
                  refine (HDO.out _ _ _ _ wr HG5.out.one).mono ?_
                  rintro e w7 ⟨rfl, F5', G5', hwt⟩
                  obtain ⟨hmid, hbel7⟩ := HG5.out.mid hBs5 hwt
                  have HW7 := Lib.hid hwt
                  clear c0 c1 c2' c3
                  obtain ⟨c0, c1, c2', c3⟩ := HCW.out w7 hbel7
                  have HMD := Lib.hid hmid
                  clear hwt hmid hbel7
                  go_wp2_with fail
                  refine (HDO.out _ _ _ _ w7 HMD.out).mono ?_
                  rintro e w8 ⟨rfl, F6', G6', hwt⟩
                  have HG8 := Lib.hid (HG5.out.went hBs5 HW7.out hwt (by have := HG5.out.many; have := HMA.out; omega))
                  have HR8 : Hid (w8.ownsRow base 9 1 (.slice A4 L.length c4) L.length (nmCells L) ∧ ∀ t, ownS (.slice A4 L.length c4) t → ¬ orS (orS F5' G5') (orS F6' G6') t) := by
                    obtain ⟨r1, r2⟩ := row_mod HR5.out (fun t ht hS => HA5.out t ht (.inl hS)) HW7.out.mod HW7.out.new
                    obtain ⟨r3, r4⟩ := row_mod r1 (fun t ht hS => HA5.out t ht (.inr hS)) hwt.mod hwt.new
                    exact ⟨r3, fun t ht hS => by rcases hS with hS | hS; exact r2 t ht hS; exact r4 t ht hS⟩
                  clear hwt
                  go_wp2
                  go_roundg (gk - 1)
                  case measure => omega
                  case rel => exact ⟨j + 1, F5', G5', F6', G6', _, by omega, by go_num, HSA.out, HG8.out, HR8.out.1, HR8.out.2⟩
                · go_wp2
                  go_roundg (gk - 1)
                  case measure => omega
                  case rel => exact ⟨j + 1, F5, G5, F6, G6, s5, by omega, by go_num, HSF.out, ⟨HG5.out.one, HG5.out.two, HG5.out.ap, by have := HG5.out.many; omega, HG5.out.ge1, HG5.out.ge2, HG5.out.bel⟩, HR5.out, HA5.out⟩
              · go_wp2
                go_roundg (gk - 1)
                case measure => omega
                case rel => exact ⟨j + 1, F5, G5, F6, G6, s5, by omega, by go_num, HSF.out, ⟨HG5.out.one, HG5.out.two, HG5.out.ap, by have := HG5.out.many; omega, HG5.out.ge1, HG5.out.ge2, HG5.out.bel⟩, HR5.out, HA5.out⟩
            · obtain rfl : j = l2 := by omega
              have hMr : Ris Nt.nm s5.now := HG5.out.one.ok.now_ris
              have hMl := HG5.out.one.ok.now_len
              have hsm := HG5.out.many
              have hsw := s5.ws_le
              have hsz := HG5.out.one.ok.sz
              have hd1 := HG5.out.one.dir
              have he1 := HG5.out.two.dir
              obtain ⟨M, hM⟩ : ∃ M, s5.now = M := ⟨_, rfl⟩
              obtain ⟨ws, hws⟩ : ∃ ws, s5.ws = ws := ⟨_, rfl⟩
              have hMdo : doN L ws = M := by rw [← hM, ← hws, ← HSF.out]; rfl
              rw [HSF.out, hws] at hd1 he1
              rw [hM] at hd1 he1 hMr
              rw [hM, hws, HSF.out] at hMl
              rw [hws, HSF.out] at hsw
              rw [hws] at hsz
              have hML : M.length ≤ 1000 := by omega
              have hWL : ws.length ≤ 1000 := by omega
              have HNL := Lib.hid (names5_any B F5 M L ws wr hd1 hMr (by omega))
              have HD1 := Lib.hid hd1
              have HE1 := Lib.hid he1
              have HBL := Lib.hid HG5.out.bel
              have HAP56 : Hid (∀ t, F5 t → ¬ F6 t) := fun t h1 h2 => HG5.out.ap t (.inl h1) (.inl h2)
              have HGE : Hid ((∀ t, F5 t → B ≤ t) ∧ ∀ t, F6 t → B ≤ t) := ⟨fun t h => HG5.out.ge1 t (.inl h), fun t h => HG5.out.ge2 t (.inl h)⟩
              have HRA : Hid (∀ t, ownS (.slice A4 L.length c4) t → ¬ F5 t ∧ ¬ F6 t) := fun t ht => ⟨fun h => HA5.out t ht (.inl (.inl h)), fun h => HA5.out t ht (.inr (.inl h))⟩
              have HSZ := Lib.hid hsz
              have HMD := Lib.hid hMdo
              clear hd1 he1 hMl hsm hsw hsz hM hws hMdo
              go_wp2_with fail
              refine HNL.out.mono ?_
              rintro e w9 ⟨A9, c9, rfl, ho9, hb9⟩
              have HR9 := Lib.hid (own_keep HR5.out (Mod.of_below hb9) (fun _ _ h => h))
              have HO9 := Lib.hid ho9
              have HD9 := Lib.hid (HD1.out.keep (Mod.of_below hb9) (fun _ _ h => h))
              have HE9 := Lib.hid (HE1.out.keep (Mod.of_below hb9) (fun _ _ h => h))
              have HB9 := Lib.hid (HBL.out.trans (hb9.mono hBs5))
              have hBs9 : B ≤ w9.heap.size := Nat.le_trans hBs5 hb9.size
              have HLA : Hid (∀ t, ownS (.slice A9 M.length c9) t → ¬ F5 t ∧ ¬ F6 t) := fun t ht => ⟨fun h => by have := HD1.out.lt t h; have := (ho9.lt t ht).1; omega, fun h => by have := HE1.out.lt t h; have := (ho9.lt t ht).1; omega⟩
              have HWA := Lib.hid (waiting5_any B F5 M L ws w9 HD9.out)
              have HCR := Lib.hid (crash5_any B F5 M L ws (ws.length : Nat) w9 HD9.out hLr (by omega) hWL HSZ.out)
              have et : doN L (ws.take ((ws.length : Nat) : Int).toNat) = M := by rw [Int.toNat_natCast, List.take_length]; exact HMD.out
              rw [et] at HCR
              obtain ⟨base9, hb9'⟩ : ∃ b, wr.heap.size = b := ⟨_, rfl⟩
              rw [hb9'] at HO9
              clear ho9 hb9 et HNL hb9'
              go_wp2_with fail
              refine HWA.out.mono ?_
              rintro e w9' ⟨rfl, hw9⟩
              subst hw9
              go_wp2_with fail
              refine HCR.out.mono ?_
              rintro e w10 ⟨rfl, F7, hd10, hs10⟩
              have HD10 := Lib.hid hd10
              have HS10 := Lib.hid hs10
              obtain ⟨hb10, hf7⟩ := step_bel HB9.out hBs9 HGE.out.1 hs10
              have HB10 := Lib.hid hb10
              have HF7 := Lib.hid hf7
              have hBs10 : B ≤ w10.heap.size := Nat.le_trans hBs9 hs10.mod.size
              have HR10 := Lib.hid (row_mod HR9.out (fun t ht => (HRA.out t ht).1) hs10.mod hs10.new)
              have HL10 := Lib.hid (row_mod HO9.out (fun t ht => (HLA.out t ht).1) hs10.mod hs10.new)
              have HE10 := Lib.hid (HE9.out.keep hs10.mod (fun t h6 h5 => HAP56.out t h5 h6))
              have H76 : Hid (∀ t, F7 t → ¬ F6 t) := fun t h7 h6 => by
                rcases hs10.new t h7 with h' | h'
                · exact HAP56.out t h' h6
                · have := HE9.out.lt t h6; omega
              have HCR2 := Lib.hid (crash5_any (B + 1) F6 M L ws 0 w10 HE10.out hLr (by omega) hWL HSZ.out)
              have et : doN L (ws.take (0 : Int).toNat) = L := rfl
              rw [et] at HCR2
              clear hd10 hs10 hb10 hf7 et HCR HWA
              go_wp2_with fail
              refine HCR2.out.mono ?_
              rintro e w11 ⟨rfl, F8, hd11, hs11⟩
              have HE11 := Lib.hid hd11
              obtain ⟨hb11, hf8⟩ := step_bel HB10.out hBs10 HGE.out.2 hs11
              have HB11 := Lib.hid hb11
              have HR11 := Lib.hid (own_keep HR10.out.1 hs11.mod (fun t ht => (HRA.out t ht).2))
              have HL11 := Lib.hid (own_keep HL10.out.1 hs11.mod (fun t ht => (HLA.out t ht).2))
              have HD11 := Lib.hid (HD10.out.keep hs11.mod (fun t h => H76.out t h))
              have hBs11 : B ≤ w11.heap.size := Nat.le_trans hBs10 hs11.mod.size
              have HN1 := Lib.hid (names5_any B F7 M M [] w11 HD11.out hMr (by omega))
              clear hd11 hs11 hb11 hf8 HCR2
              go_wp2_with fail
              refine HN1.out.mono ?_
              rintro e w12 ⟨A12, c12, rfl, ho12, hb12⟩
              have HR12 := Lib.hid (own_keep HR11.out (Mod.of_below hb12) (fun _ _ h => h))
              have HL12 := Lib.hid (own_keep HL11.out (Mod.of_below hb12) (fun _ _ h => h))
              have HO12 := Lib.hid ho12
              have HD12 := Lib.hid (HD11.out.keep (Mod.of_below hb12) (fun _ _ h => h))
              have HE12 := Lib.hid (HE11.out.keep (Mod.of_below hb12) (fun _ _ h => h))
              have HB12 := Lib.hid (HB11.out.trans (hb12.mono hBs11))
              have hBs12 : B ≤ w12.heap.size := Nat.le_trans hBs11 hb12.size
              have HN2 := Lib.hid (names5_any (B + 1) F8 L L [] w12 HE12.out hLr (by omega))
              clear ho12 hb12 HN1
              go_wp2_with fail
              refine HN2.out.mono ?_
              rintro e w13 ⟨A13, c13, rfl, ho13, hb13⟩
              have HCS := Lib.hid (Cells.of_own (own_keep HR12.out (Mod.of_below hb13) (fun _ _ h => h)))
              have HCL := Lib.hid (Cells.of_own (own_keep HL12.out (Mod.of_below hb13) (fun _ _ h => h)))
              have HCA := Lib.hid (Cells.of_own (own_keep HO12.out (Mod.of_below hb13) (fun _ _ h => h)))
              have HCB := Lib.hid (Cells.of_own ho13)
              have HB13 := Lib.hid (HB12.out.trans (hb13.mono hBs12))
              have HW1 := Lib.hid (waiting5_any B F7 M M [] w13 (HD12.out.keep (Mod.of_below hb13) (fun _ _ h => h)))
              have HW2 := Lib.hid (waiting5_any (B + 1) F8 L L [] w13 (HE12.out.keep (Mod.of_below hb13) (fun _ _ h => h)))
              obtain ⟨mM, hmM⟩ : ∃ m, M.length = m := ⟨_, rfl⟩
              obtain ⟨mL, hmL⟩ : ∃ m, L.length = m := ⟨_, rfl⟩
              have HMM := Lib.hid hmM
              have HML := Lib.hid hmL
              have hmM1 : mM ≤ 1000 := by omega
              have hmL1 : mL ≤ 1000 := by omega
              rw [hmM, hmL]
              clear ho13 hb13 HN2 hmM hmL
              go_wp2_with fail
              refine HW1.out.mono ?_
              rintro e w13' ⟨rfl, hw⟩
              subst hw
              go_wp2_with fail
              refine HW2.out.mono ?_
              rintro e w13' ⟨rfl, hw⟩
              subst hw
              go_wp2
              go_loopg [15] mM (fun gk i wr => ∃ k n : Nat, k + gk = mM ∧ i = .int .i64 k ∧ wr = w13.drewN n)
              case atStart => exact ⟨0, 0, by omega, rfl, rfl⟩
              case round =>
                obtain ⟨k, n, hk, rfl, hwr⟩ := hrel
                have HWR := Lib.hid hwr
                by_cases h : k < mM
                · obtain ⟨x, hx⟩ : ∃ x, M[k]? = some x := ⟨_, List.getElem?_eq_getElem (by have := HMM.out; omega)⟩
                  obtain ⟨b1, o1, rfl, _, hc1⟩ := HCA.out (by unfold nmCells; rw [List.length_map]; have := HMM.out; omega)
                  obtain ⟨b2, o2, rfl, _, hc2⟩ := HCL.out (by unfold nmCells; rw [List.length_map]; have := HMM.out; omega)
                  have hu : (nmCells M)[k]? = some (.string x.nm) := by unfold nmCells; rw [List.getElem?_map, hx]; rfl
                  have p0 : wr.cell? ⟨b1, o1 + k, none⟩ = some (.string x.nm) := by rw [hwr]; exact hc1 k _ hu
                  have q0 : wr.cell? ⟨b2, o2 + k, none⟩ = some (.string x.nm) := by rw [hwr]; exact hc2 k _ hu
                  have hki : (k : Int) < (mM : Int) := by omega
                  have hw1 : IntKind.i64.wrap ((k : Int) + 1) = (k : Int) + 1 := IntWalk.i64_in _ (by omega)
                  have hs3 : (x.nm.toList == x.nm.toList) = true := by simp
                  clear hc1 hc2 hx hu hwr
                  go_wp2
                  go_quiet (fail)
                  go_wp2
                  go_roundg (gk - 1)
                  case measure => omega
                  case rel => exact ⟨k + 1, _, by omega, by go_num, by rw [HWR.out]; exact World.drewN_drewN ..⟩
                · obtain rfl : k = mM := by omega
                  obtain ⟨V, hV⟩ : ∃ V, w13.drewN n = V := ⟨_, rfl⟩
                  rw [hV] at hwr
                  subst hwr
                  have HVV := Lib.hid hV
                  clear hV
                  go_wp2
                  go_loopg [16] mL (fun gk i wr => ∃ k n : Nat, k + gk = mL ∧ i = .int .i64 k ∧ wr = w13.drewN n)
                  case atStart => exact ⟨0, n, by omega, rfl, HVV.out.symm⟩
                  case round =>
                    obtain ⟨j, n2, hk, rfl, hwr⟩ := hrel
                    have HWR2 := Lib.hid hwr
                    by_cases h : j < mL
                    · obtain ⟨x, hx⟩ : ∃ x, L[j]? = some x := ⟨_, List.getElem?_eq_getElem (by have := HML.out; omega)⟩
                      obtain ⟨b1, o1, rfl, _, hc1⟩ := HCB.out (by unfold nmCells; rw [List.length_map]; have := HML.out; omega)
                      obtain ⟨b2, o2, rfl, _, hc2⟩ := HCS.out (by unfold nmCells; rw [List.length_map]; have := HML.out; omega)
                      have hu : (nmCells L)[j]? = some (.string x.nm) := by unfold nmCells; rw [List.getElem?_map, hx]; rfl
                      have p0 : wr.cell? ⟨b1, o1 + j, none⟩ = some (.string x.nm) := by rw [hwr]; exact hc1 j _ hu
                      have q0 : wr.cell? ⟨b2, o2 + j, none⟩ = some (.string x.nm) := by rw [hwr]; exact hc2 j _ hu
                      have hki : (j : Int) < (mL : Int) := by omega
                      have hw1 : IntKind.i64.wrap ((j : Int) + 1) = (j : Int) + 1 := IntWalk.i64_in _ (by omega)
                      have hs3 : (x.nm.toList == x.nm.toList) = true := by simp
                      clear hc1 hc2 hx hu hwr
                      go_wp2
                      go_quiet (fail)
                      go_wp2
                      go_roundg (gk - 1)
                      case measure => omega
                      case rel => exact ⟨j + 1, _, by omega, by go_num, by rw [HWR2.out]; exact World.drewN_drewN ..⟩
                    · obtain rfl : j = mL := by omega
                      have hbv : Below B w wr := by rw [hwr]; exact Below.drewN HB13.out n2
                      go_wp2_with fail
                      refine (HLV.out _ (by first | exact hbv | exact Below.drewN HB13.out n2)).mono ?_
                      rintro e wL ⟨rfl, hbL⟩
                      go_wp2
                      go_ret
                      exact ⟨rfl, by rw [HBB.out]; exact hbL⟩
end Go.Proofs.Ytbfaefnlhcdnhaa
