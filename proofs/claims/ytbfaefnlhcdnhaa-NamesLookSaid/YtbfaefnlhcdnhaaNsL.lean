/- Layer 5: any call of both; lives. -/
import Derived.Test.YtbfaefnlhcdnhaaNsS
import Derived.Test.YtbfaefnlhcdnhaaNsD0
import Derived.Test.YtbfaefnlhcdnhaaNsD1
import Derived.Test.YtbfaefnlhcdnhaaNsD2
import Derived.Test.YtbfaefnlhcdnhaaNsD3
namespace Go.Proofs.Ytbfaefnlhcdnhaa
open Go.RowKit Go.Maps

theorem opN_ok {s : Nst} (h : s.Ok) (x : LOp) (ha : x.a.size ≤ 1000) (hb : x.b.size ≤ 1000) (hn : (Lit.int .i64 x.n).wf = true) : (opN s x.kind x.a x.b x.n).Ok := by
  have hp : ∀ (E : Int) (c : Ch), (c.fr.size ≤ 1000 ∧ c.to.size ≤ 1000 ∧ (Lit.int .i64 c.id).wf = true) → (pickS E s c).Ok := fun E c hc => by
    unfold pickS
    split
    · exact h.more c hc
    · exact h
  unfold opN
  split
  · exact hp _ _ ⟨(show noN.size ≤ 1000 by decide), ha, hn⟩
  · split
    · exact hp _ _ ⟨ha, hb, wf0⟩
    · split
      · exact hp _ _ ⟨ha, (show noN.size ≤ 1000 by decide), wf0⟩
      · split
        · exact h.sync
        · exact h.crash _
theorem does_any (d r : Nat) (F G : Nat → Prop) (s : Nst) (x : LOp) (w : World) (h : BothN w d r F G s) (hm : s.many ≤ 900) (ha : x.a.size ≤ 1000) (hb : x.b.size ≤ 1000) (hn : (Lit.int .i64 x.n).wf = true) (hpre : s.pre = 0 ∨ x.kind = 0 ∨ x.kind = 1 ∨ x.kind = 2) :
    Calls Try.prog 9 #[.pointer (some ⟨d, 0, none⟩), .pointer (some ⟨r, 0, none⟩), .agg #[.int .i64 x.kind, .string x.a, .string x.b, .int .i64 x.n]] w fun e w' => e = .returned (.bool true) ∧ ∃ F' G', Went w w' d r F G (opN s x.kind x.a x.b x.n) F' G' := by
  obtain ⟨kind, a, b, n⟩ := x
  show Calls _ _ #[_, _, .agg #[.int .i64 kind, .string a, .string b, .int .i64 n]] w fun e w' => e = .returned (.bool true) ∧ ∃ F' G', Went w w' d r F G (opN s kind a b n) F' G'
  unfold opN
  by_cases h0 : kind = 0
  · subst h0
    rw [if_pos rfl]
    exact does_0 d r F G s a b n w h hm ha hn
  · rw [if_neg h0]
    by_cases h1 : kind = 1
    · subst h1
      rw [if_pos rfl]
      exact does_1 d r F G s a b n w h hm ha hb
    · rw [if_neg h1]
      by_cases h2 : kind = 2
      · subst h2
        rw [if_pos rfl]
        exact does_2 d r F G s a b n w h hm ha
      · rw [if_neg h2]
        by_cases h3 : kind = 3
        · subst h3
          rw [if_pos rfl]
          exact does_3 d r F G s a b n w h
        · rw [if_neg h3]
          exact does_4 d r F G s kind a b n w h hm h0 h1 h2 h3 (hpre.resolve_right (fun h => by rcases h with h | h | h; exact h0 h; exact h1 h; exact h2 h))
theorem opN_pre {s : Nst} (h : s.pre = 0) (kind : Int) (a b : ByteArray) (n : Int) : (opN s kind a b n).pre = 0 := by
  have hp : ∀ (E : Int) (c : Ch), (pickS E s c).pre = 0 := fun E c => by
    unfold pickS
    split
    · exact h
    · exact h
  unfold opN
  split
  · exact hp _ _
  · split
    · exact hp _ _
    · split
      · exact hp _ _
      · split
        · rfl
        · rfl
/-- A directory that was just made. -/
theorem dir_new {w : World} {d : Nat} (h : w.heap[d]? = some (.cells #[.map none, .map none, .slice none 0 0] 28 (0, 0))) : DirS w d (oneB d) [] [] [] :=
  ⟨none, none, none, 0, h, .inl ⟨rfl, rfl⟩, .inl ⟨rfl, rfl⟩, World.ownsRow_nil _ _ _ _, rfl, fun b hb => (by cases hb), fun b hb => (by cases hb), fun b hb => (by cases hb), fun b hb => (by cases hb), fun k hk => by have e : k = d := hk; subst e; exact (Array.getElem?_eq_some_iff.1 h).1⟩
theorem ref_new {w : World} {r : Nat} (h : w.heap[r]? = some (.cells #[.slice none 0 0, .slice none 0 0] 32 (0, 0))) : RefS w r (oneB r) [] [] :=
  ⟨none, 0, none, 0, [], h, World.ownsRow_nil _ _ _ _, World.ownsRow_nil _ _ _ _, fun i p hp => (by cases hp), rfl, fun k hk => (by cases hk), fun k hk => (by cases hk), fun k hk => by have e : k = r := hk; subst e; exact (Array.getElem?_eq_some_iff.1 h).1⟩
def s00 : Nst := ⟨[], [], [], 0⟩
theorem s00_ok : s00.Ok := ⟨List.Pairwise.nil, rfl, (fun e he => by cases he), (fun c hc => by cases hc), rfl, fun i hi => absurd hi (Nat.not_lt_zero _)⟩
def nA : ByteArray := ⟨#[97]⟩
def nB : ByteArray := ⟨#[98]⟩
theorem nA_ne : nA ≠ noN := fun h => by have := congrArg ByteArray.size h; exact absurd this (by decide)
theorem nB_ne : nB ≠ noN := fun h => by have := congrArg ByteArray.size h; exact absurd this (by decide)
theorem cr_a : crE [] nA = 0 := by decide
theorem st_a : step1 [] ⟨noN, nA, 1⟩ = [⟨nA, 1⟩] := by rw [step_create nA_ne rfl]; rfl
theorem has_a : hasK Nt.nm [⟨nA, 1⟩] nA = true := hasK_iff.2 ⟨⟨nA, 1⟩, List.mem_singleton.2 rfl, rfl⟩
theorem rn_a : rnE [⟨nA, 1⟩] nA nB = 0 := by unfold rnE; rw [has_a]; decide
theorem st_b : step1 [⟨nA, 1⟩] ⟨nA, nB, 0⟩ = [⟨nB, 1⟩] := by
  rw [step_rename (i := 1) (List.pairwise_singleton _ _) nA_ne nB_ne (List.mem_singleton.2 rfl)]
  have : outK Nt.nm [⟨nA, 1⟩] nA = [] := by unfold outK; simp
  rw [this]
  rfl
set_option maxRecDepth 100000 in
set_option maxHeartbeats 1000000 in
theorem lives5_any (w : World) : Calls Try.prog 8 #[] w fun e w' => e = .returned (.bool true) ∧ Below w.heap.size w w' := by
  obtain ⟨W, hW⟩ : ∃ W, w.alloc (.cells #[.map none, .map none, .slice none 0 0] 28) = W := ⟨_, rfl⟩
  obtain ⟨d, hd⟩ : ∃ d, w.heap.size = d := ⟨_, rfl⟩
  have hb0 : W.heap[d]? = some (.cells #[.map none, .map none, .slice none 0 0] 28 (0, 0)) := by rw [← hW, ← hd]; exact heap_alloc_new w _
  have HB0 : Hid (Below w.heap.size w W) := by show Below _ _ _; rw [← hW]; exact (Below.refl _ w).alloc (Nat.le_refl _) _
  have HDW := Lib.hid hd
  have fin : Hid (∀ (V V' : World) (F F' : Nat → Prop), Below w.heap.size w V → (∀ k, F k → d ≤ k) → StepF F F' V V' → Below w.heap.size w V' ∧ ∀ k, F' k → d ≤ k) := fun V V' F F' hV hF h => ⟨h.mod.below hV hV.size (fun k hk => by have := hF k hk; omega), fun k hk => by
    rcases h.new k hk with h' | h'
    · exact hF k h'
    · have := hV.size; omega⟩
  have HC1 := Lib.hid (create5_any d (oneB d) [] [] [] nA 1 (by decide) W (dir_new hb0) List.Pairwise.nil (by decide) (by decide) (by decide))
  rw [cr_a] at HC1
  clear hb0
  go_enter Try.func8, Try.ntmps8
  go_wp2_with fail
  refine HC1.out.mono ?_
  rintro e w1 ⟨rfl, F1, hd1, hs1⟩
  obtain ⟨hb1, hf1⟩ := fin.out _ _ _ _ HB0.out (fun k hk => by have e : k = d := hk; omega) hs1
  have hd1' : DirS w1 d F1 [⟨nA, 1⟩] [] [⟨noN, nA, 1⟩] := by
    have e : chN 0 [] ⟨noN, nA, 1⟩ = [⟨nA, 1⟩] := st_a
    rw [e] at hd1
    exact hd1
  have HC2 := Lib.hid (rename5_any d F1 [⟨nA, 1⟩] [] [⟨noN, nA, 1⟩] nA nB w1 hd1' (List.pairwise_singleton _ _) (by decide) (by decide) (by decide))
  rw [rn_a] at HC2
  have HB1 := Lib.hid hb1
  have HF1 := Lib.hid hf1
  clear hd1 hs1 hb1 hf1 hd1' hW HC1
  go_wp2_with fail
  refine HC2.out.mono ?_
  rintro e w2 ⟨rfl, F2, hd2, hs2⟩
  obtain ⟨hb2, hf2⟩ := fin.out _ _ _ _ HB1.out HF1.out hs2
  have hd2' : DirS w2 d F2 [⟨nB, 1⟩] [] [⟨noN, nA, 1⟩, ⟨nA, nB, 0⟩] := by
    have e : chN 0 [⟨nA, 1⟩] ⟨nA, nB, 0⟩ = [⟨nB, 1⟩] := st_b
    rw [e] at hd2
    exact hd2
  have HC3 := Lib.hid (names5_any d F2 [⟨nB, 1⟩] [] [⟨noN, nA, 1⟩, ⟨nA, nB, 0⟩] w2 hd2' (List.pairwise_singleton _ _) (by decide))
  have HD2 := Lib.hid hd2'
  have HB2 := Lib.hid hb2
  have HF2 := Lib.hid hf2
  clear hd2 hs2 hb2 hf2 hd2' HC2
  go_wp2_with fail
  refine HC3.out.mono ?_
  rintro e w3 ⟨A3, c3, rfl, hc3, hb3⟩
  have HB3 := Lib.hid (HB2.out.trans (hb3.mono HB2.out.size))
  have HD3 := Lib.hid (HD2.out.keep (Mod.of_below hb3) (fun _ _ h => h))
  have HN3 := Lib.hid hc3
  have HCR := Lib.hid (crash5_any d F2 [⟨nB, 1⟩] [] [⟨noN, nA, 1⟩, ⟨nA, nB, 0⟩] 1 w3 HD3.out List.Pairwise.nil (by decide) (by decide) (fun c hc => by
    rcases List.mem_cons.1 hc with rfl | hc
    · exact ⟨by decide, by decide, by decide⟩
    · rw [List.mem_singleton] at hc
      subst hc
      exact ⟨by decide, by decide, by decide⟩))
  have hda : doN [] ([⟨noN, nA, 1⟩, ⟨nA, nB, 0⟩].take (1 : Int).toNat) = [⟨nA, 1⟩] := st_a
  rw [hda] at HCR
  clear hc3 hb3 HC3 hda
  go_wp2_with fail
  refine HCR.out.mono ?_
  rintro e w4 ⟨rfl, F4, hd4, hs4⟩
  obtain ⟨hb4, hf4⟩ := fin.out _ _ _ _ HB3.out HF2.out hs4
  have HC5 := Lib.hid (names5_any d F4 [⟨nA, 1⟩] [⟨nA, 1⟩] [] w4 hd4 (List.pairwise_singleton _ _) (by decide))
  have HB4 := Lib.hid hb4
  have hown4 := own_keep HN3.out hs4.mod (fun k hk hf => by have h1 := (HN3.out.lt k hk).1; have h2 := HD2.out.lt k hf; omega)
  have HO4 := Lib.hid hown4
  obtain ⟨b3, o3, rfl, hl3, hq3⟩ := Cells.of_own hown4 (by decide)
  clear hd4 hs4 hb4 hf4 HCR hown4
  go_wp2_with fail
  refine HC5.out.mono ?_
  rintro e w5 ⟨A5, c5, rfl, hc5, hb5⟩
  have HB5 := Lib.hid (HB4.out.trans (hb5.mono HB4.out.size))
  obtain ⟨b5, o5, rfl, hl5, hq5⟩ := Cells.of_own hc5 (by decide)
  have p5 : w5.cell? ⟨b5, o5, none⟩ = some (.string nA) := hq5 0 _ rfl
  have p3 : w5.cell? ⟨b3, o3, none⟩ = some (.string nB) := (hb5.cell (p := ⟨b3, o3, none⟩) hl3).trans (hq3 0 _ rfl)
  have e1 : nA.toList = [97] := ByteArray.toList_eq nA
  have e2 : nB.toList = [98] := ByteArray.toList_eq nB
  clear hb5 hc5 hq5 hq3
  go_wp2
  go_ret
  exact ⟨rfl, HB5.out⟩
end Go.Proofs.Ytbfaefnlhcdnhaa
