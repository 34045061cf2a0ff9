/- Layer 6: Refuse; a first file; a Write that is refused; the chapter's example. -/
import Derived.Test.YtcfkepahilioaaaFcB
import Derived.Test.YtcfkepahilioaaaFsS
namespace Go.Proofs.Ytcfkepahilioaaa
open Go.RowKit Go.Maps

theorem DirB.dlt {w : World} {d : Nat} {X : FsX} {F : Nat → Prop} {bn bs : Option Nat} {Aw : Option Addr} {cw : Nat} {now safe : List Nt} {ws : List Ch} (h : DirB w d X F bn bs Aw cw now safe ws) : d < w.heap.size := h.lt d h.fd
theorem DirB.below {w W : World} {d : Nat} {X : FsX} {F : Nat → Prop} {bn bs : Option Nat} {Aw : Option Addr} {cw : Nat} {now safe : List Nt} {ws : List Ch} (h : DirB w d X F bn bs Aw cw now safe ws) (hb : Below w.heap.size w W) : DirB W d X F bn bs Aw cw now safe ws := h.keep (Mod.of_below hb) (fun _ _ e => e)
set_option maxRecDepth 100000 in
set_option maxHeartbeats 1000000 in
theorem refuse6_any {w : World} {d : Nat} {X : FsX} {F : Nat → Prop} {bn bs : Option Nat} {Aw : Option Addr} {cw : Nat} {now safe : List Nt} {ws : List Ch} (h : DirB w d X F bn bs Aw cw now safe ws) (A : Option Addr) (l c : Nat) (ss : List Int) (B : Nat) (hl : ss.length = l) (hm : l ≤ 1000000) (hb : Cells w B A (intCs ss)) :
    Calls Try.prog 5 #[.pointer (some ⟨d, 0, none⟩), .slice A l c] w fun e w' => e = .returned (.tuple #[]) ∧ ∃ v, DirB w' d { X with rs := v } F bn bs Aw cw now safe ws ∧ w'.ownsRow w.heap.size 3 1 v l (intCs (ss.mergeSort fun x y => decide (x ≤ y))) ∧ Mod (oneB d) w w' := by
  have HV := Lib.hid (valuesI_any A l c w)
  obtain ⟨bl, hbl⟩ : ∃ bl, 0 < l → RowObj w A (intCs ss) bl := by
    by_cases hp : 0 < l
    · obtain ⟨bl, h1, _⟩ := rowObj_of hb (by rw [intCs_len]; omega)
      exact ⟨bl, fun _ => h1⟩
    · exact ⟨0, fun h => absurd h hp⟩
  have hb1 : Below w.heap.size w (w.alloc (.cells #[.slice A l c] 57)) := (Below.refl _ w).alloc (Nat.le_refl _) _
  have HS := Lib.hid (sortedI_any w.heap.size bl A l c ss (w.alloc (.cells #[.slice A l c] 57)) hl hm (heap_alloc_new w _) (fun h => (hbl h).to (fun o ho _ => (hb1.block bl (hbl h).lt).trans ho)))
  have HB1 := Lib.hid hb1
  have HD := Lib.hid h
  have hdl := h.dlt
  clear hb hbl hb1 hl h
  go_enter Try.func5, Try.ntmps5
  go_wp2_with fail
  refine HV.out.mono ?_
  rintro e w1 ⟨rfl, rfl⟩
  go_wp2_with fail
  refine HS.out.mono ?_
  rintro e w2 ⟨v, rfl, ho, hbel⟩
  obtain ⟨A9, c9, rfl⟩ := own_form' ho
  have HB2 := Lib.hid (HB1.out.trans (hbel.mono HB1.out.size))
  have HO : Hid (w2.ownsRow w.heap.size 3 1 (.slice A9 l c9) l (intCs (ss.mergeSort fun x y => decide (x ≤ y)))) := ⟨ho.1, by
    rcases ho.2 with h | ⟨g', cap, cur', r1, r2, r3⟩
    · exact .inl h
    · exact .inr ⟨g', cap, cur', r1, by simp at r2; omega, r3⟩⟩
  have HD2 := Lib.hid (HD.out.below HB2.out)
  have c7 := HD2.out.all.2.2.2.2.1
  have f7 := HD2.out.all.2.2.2.2.2 7
  clear ho hbel
  go_wp2
  first | go_end0 | (refine bodyPost_ret (results_none rfl _ _ _) rfl ?_)
  exact ⟨rfl, _, HD2.out.rs1 _, own_keep HO.out ((Mod.refl (oneB d) w2).set _ _ (.inl rfl)) (fun k hk e => by have h1 := (HO.out.lt k hk).1; have h2 : k = d := e; omega), ((Mod.of_below HB2.out).mono (T := oneB d) (fun _ h => h.elim)).set _ _ (.inl rfl)⟩
theorem dkElem : Elem Try.prog 65 72 (.pointer none) 1 8 := Elem.of Try.underlying65 (by kernel_rfl) rfl (by omega)
set_option maxRecDepth 100000 in
set_option maxHeartbeats 2000000 in
theorem create6_first {w : World} {d : Nat} {X : FsX} {F : Nat → Prop} (h : DirB w d X F none none none 0 [] [] []) (a : Int) (ha : 0 ≤ a ∧ a ≤ 1000000) (hal : X.al = .int .i64 a) (g o k c : Nat) (n : Int) (hrs : X.rs = .slice (some ⟨g, o, none⟩) (k + 1) c) (hg : g ≠ d) (hc : w.cell? ⟨g, o, none⟩ = some (.int .i64 n)) (hn : a + 1 < n) (hdk : X.dk = .slice none 0 0) :
    Calls Try.prog 7 #[.pointer (some ⟨d, 0, none⟩), .string ⟨#[97]⟩] w fun e w' => e = .returned (.tuple #[.int .i64 0, .int .i64 0]) ∧ (∃ v F' now ws, DirS w' d { X with al := .int .i64 (a + 1), dk := v } F' now [] ws) ∧ Mod F w w' := by
  have HC := Lib.hid (call6_later h a ha hal g o k c n hrs hg hc hn)
  have hfd := h.fd
  clear h hc
  go_enter Try.func7, Try.ntmps7
  go_upto_region 4 with (go_at_call 30; refine HC.out.mono ?_; rintro e w1 ⟨rfl, hd1, hm1⟩; have HD1 := Lib.hid hd1; have HM1 := Lib.hid hm1; clear hd1 hm1)
  have c0 := HD1.out.all.1
  simp only [hdk] at c0
  have hcr := create5_any d F [] [] [] ⟨#[97]⟩ 0 (by decide) w1 ⟨_, _, _, _, HD1.out⟩ (by constructor) (by simp) (by simp) (by decide)
  rw [show crE [] ⟨#[97]⟩ = 0 from by decide] at hcr
  have HCR := Lib.hid hcr
  clear hcr
  go_upto_region 10 with (go_at_call 31; refine HCR.out.mono ?_; rintro e w2 ⟨rfl, F', hd2, hst⟩; have HD2 := Lib.hid hd2; have HST := Lib.hid hst; clear hd2 hst c0)
  obtain ⟨bn, bs, Aw, cw, hD2⟩ := HD2.out
  have c0 := hD2.all.1
  have f0 := hD2.all.2.2.2.2.2 0
  simp only [hdk] at c0
  have HDB := Lib.hid hD2
  clear hD2
  have HN0 := Lib.hid (fun W : World => World.ownsRow_nil W w2.heap.size 72 1)
  go_wp2_with ((first
    | (at_builtin; (refine wpList_app1 (w2.alloc (.cells #[.slice none 0 0, .slice none 0 0, .slice none 0 0] 78)) dkElem rfl (.tmp 34) (.tmp 37) rfl w2.heap.size (.slice none 0 0) 0 [] rfl (HN0.out _) #[.pointer (some ⟨w2.heap.size, 0, none⟩)] (by rw [World.size_alloc]; rfl) rfl (by simp [Value.oneCell']) (by unfold maxLen; omega) (by omega) (by simp) ?_; intro A5 c5 W5 hA; have HB5 : Hid (Below w2.heap.size w2 W5) := hA.below ((Below.refl _ w2).alloc (Nat.le_refl _) _) (by simp) (fun k hk => by cases hk); have HD5 := Lib.hid (HDB.out.below HB5.out); clear hA c0 f0; have c0 := HD5.out.all.1; have f0 := HD5.out.all.2.2.2.2.2 0; simp only [hdk] at c0))))
  go_ret2
  exact ⟨rfl, ⟨_, F', _, _, _, _, _, _, HD5.out.dk1 _⟩, (((HM1.out.mono (T := F) (fun k hk => by have : k = d := hk; rw [this]; exact hfd)).then_ HST.out.mod).then_ ((Mod.of_below HB5.out).mono (T := F) (fun _ h => h.elim))).set _ _ (.inl hfd)⟩
theorem write6_this {w : World} {d : Nat} {X : FsX} {F : Nat → Prop} {bn bs : Option Nat} {Aw : Option Addr} {cw : Nat} {now safe : List Nt} {ws : List Ch} (h : DirB w d X F bn bs Aw cw now safe ws) (a r : Int) (ha : 0 ≤ a ∧ a ≤ 1000000) (hr : 0 ≤ r ∧ r ≤ 1000000) (hal : X.al = .int .i64 a) (hrd : X.rd = .int .i64 r) (g o c : Nat) (hrs : X.rs = .slice (some ⟨g, o, none⟩) 1 (c + 1)) (hg : g ≠ d) (hc : w.cell? ⟨g, o, none⟩ = some (.int .i64 (a + 1))) (i p : Int) (A : Option Addr) (l k : Nat) :
    Calls Try.prog 11 #[.pointer (some ⟨d, 0, none⟩), .int .i64 i, .int .i64 p, .slice A l k] w fun e w' => e = .returned (.int .i64 10) ∧ (∃ A c', DirB w' d { X with al := .int .i64 (a + 1), rd := .int .i64 (r + 1), rs := .slice A 0 c' } F bn bs Aw cw now safe ws) ∧ Mod (oneB d) w w' := by
  have HC := Lib.hid (call6_this h a r ha hr hal hrd g o c hrs hg hc)
  clear h hc
  go_enter Try.func11, Try.ntmps11
  go_wp2_with (go_at_call 30; refine HC.out.mono ?_; rintro e w1 ⟨rfl, hd1, hm1⟩; have HD1 := Lib.hid hd1; have HM1 := Lib.hid hm1; clear hd1 hm1)
  go_ret
  exact ⟨rfl, HD1.out, HM1.out⟩
end Go.Proofs.Ytcfkepahilioaaa
