/- Layer 5: both directories side by side, plainly; the reference's Crash. -/
import Derived.Test.YtbfaefnlhcdnhaaNeO
namespace Go.Proofs.Ytbfaefnlhcdnhaa
open Go.RowKit Go.Maps

/-- What was safe, what waits, all that it was since. -/
structure Nst where
  safe : List Nt
  ws : List Ch
  past : List (List Nt)
  pre : Nat
def Nst.now (s : Nst) : List Nt := doN s.safe s.ws
structure Nst.Ok (s : Nst) : Prop where
  ris : Ris Nt.nm s.safe
  none : hasK Nt.nm s.safe noN = false
  ss : ∀ e ∈ s.safe, e.nm.size ≤ 1000
  sz : ∀ c ∈ s.ws, c.fr.size ≤ 1000 ∧ c.to.size ≤ 1000 ∧ (Lit.int .i64 c.id).wf = true
  len : s.past.length = s.pre + s.ws.length
  get : ∀ i, i < s.ws.length → s.past[s.pre + i]? = some (doN s.safe (s.ws.take i))
def Nst.many (s : Nst) : Nat := s.safe.length + s.ws.length + s.pre
theorem step1_none {l : List Nt} (h : hasK Nt.nm l noN = false) (c : Ch) : hasK Nt.nm (step1 l c) noN = false := by
  have hw : ∀ (l : List Nt) (m : Nt), hasK Nt.nm l noN = false → m.nm ≠ noN → hasK Nt.nm (withK Nt.nm l m) noN = false := fun l m h hm => hasK_not.2 (fun x hx => by
    rcases mem_with.1 hx with rfl | ⟨hx, _⟩
    · exact hm
    · exact hasK_not.1 h x hx)
  have ho : ∀ (l : List Nt) (s : ByteArray), hasK Nt.nm l noN = false → hasK Nt.nm (outK Nt.nm l s) noN = false := fun l s h => hasK_not.2 (fun x hx => hasK_not.1 h x (mem_out.1 hx).1)
  unfold step1
  by_cases h1 : c.fr = c.to
  · rw [if_pos h1]; exact h
  · rw [if_neg h1]
    refine ho _ _ ?_
    unfold mid1
    by_cases h2 : c.fr = noN
    · rw [if_pos h2]; exact hw _ _ h (fun e => h1 (h2.trans (show c.to = noN from e).symm))
    · rw [if_neg h2]
      by_cases h3 : c.to = noN
      · rw [if_pos h3]; exact h
      · rw [if_neg h3]; exact hw _ _ h h3
theorem doN_none {l : List Nt} (h : hasK Nt.nm l noN = false) (cs : List Ch) : hasK Nt.nm (doN l cs) noN = false := by
  induction cs generalizing l with
  | nil => exact h
  | cons c cs ih => exact ih (step1_none h c)
theorem step1_sz {l : List Nt} {c : Ch} (h : ∀ e ∈ l, e.nm.size ≤ 1000) (hc : c.to.size ≤ 1000) : ∀ e ∈ step1 l c, e.nm.size ≤ 1000 := by
  have hw : ∀ (m : Nt), m.nm.size ≤ 1000 → ∀ e ∈ withK Nt.nm l m, e.nm.size ≤ 1000 := fun m hm e he => by
    rcases mem_with.1 he with rfl | ⟨he, _⟩
    · exact hm
    · exact h e he
  unfold step1
  split
  · exact h
  · intro e he
    have he2 := (mem_out.1 he).1
    unfold mid1 at he2
    split at he2
    · exact hw _ hc e he2
    · split at he2
      · exact h e he2
      · exact hw _ hc e he2
theorem doN_sz {l : List Nt} {cs : List Ch} (h : ∀ e ∈ l, e.nm.size ≤ 1000) (hc : ∀ c ∈ cs, c.to.size ≤ 1000) : ∀ e ∈ doN l cs, e.nm.size ≤ 1000 := by
  induction cs generalizing l with
  | nil => exact h
  | cons c cs ih => exact ih (step1_sz h (hc c (List.mem_cons_self ..))) (fun x hx => hc x (List.mem_cons_of_mem _ hx))
theorem Nst.Ok.now_sz {s : Nst} (h : s.Ok) : ∀ e ∈ s.now, e.nm.size ≤ 1000 := doN_sz h.ss (fun c hc => (h.sz c hc).2.1)
theorem Nst.Ok.now_ris {s : Nst} (h : s.Ok) : Ris Nt.nm s.now := doN_ris h.ris _
theorem Nst.Ok.now_none {s : Nst} (h : s.Ok) : hasK Nt.nm s.now noN = false := doN_none h.none _
theorem Nst.Ok.now_len {s : Nst} (h : s.Ok) : s.now.length ≤ s.safe.length + s.ws.length := doN_len h.ris _
/-- A change more. -/
def Nst.more (s : Nst) (c : Ch) : Nst := ⟨s.safe, s.ws ++ [c], s.past ++ [s.now], s.pre⟩
theorem Nst.now_more (s : Nst) (c : Ch) : (s.more c).now = step1 s.now c := doN_snoc _ _ _
theorem Nst.Ok.more {s : Nst} (h : s.Ok) (c : Ch) (hc : c.fr.size ≤ 1000 ∧ c.to.size ≤ 1000 ∧ (Lit.int .i64 c.id).wf = true) : (s.more c).Ok := by
  refine ⟨h.ris, h.none, h.ss, fun x hx => ?_, ?_, fun i hi => ?_⟩
  · rcases List.mem_append.1 hx with hx | hx
    · exact h.sz x hx
    · rw [List.mem_singleton.1 hx]; exact hc
  · show (s.past ++ [s.now]).length = s.pre + (s.ws ++ [c]).length
    rw [List.length_append, List.length_append, h.len]; rfl
  · have hi' : i < s.ws.length + 1 := by have : i < (s.ws ++ [c]).length := hi; rw [List.length_append] at this; exact this
    show (s.past ++ [s.now])[s.pre + i]? = some (doN s.safe ((s.ws ++ [c]).take i))
    rw [List.take_append_of_le_length (by omega)]
    by_cases h1 : i < s.ws.length
    · rw [List.getElem?_append_left (by rw [h.len]; omega)]
      exact h.get i h1
    · obtain rfl : i = s.ws.length := by omega
      rw [List.getElem?_append_right (by rw [h.len]; exact Nat.le_refl _), h.len, Nat.sub_self, List.take_length]
      rfl
theorem Nst.many_more (s : Nst) (c : Ch) : (s.more c).many = s.many + 1 := by
  show s.safe.length + (s.ws ++ [c]).length + s.pre = s.safe.length + s.ws.length + s.pre + 1
  rw [List.length_append]
  show s.safe.length + (s.ws.length + 1) + s.pre = _
  omega
/-- All is safe. -/
def Nst.sync (s : Nst) : Nst := ⟨s.now, [], [], 0⟩
theorem Nst.Ok.sync {s : Nst} (h : s.Ok) : s.sync.Ok := ⟨h.now_ris, h.now_none, h.now_sz, (fun c hc => by cases hc), rfl, fun i hi => absurd hi (Nat.not_lt_zero _)⟩
theorem Nst.Ok.many_sync {s : Nst} (h : s.Ok) : s.sync.many ≤ s.many := by
  show s.now.length + 0 + 0 ≤ s.safe.length + s.ws.length + s.pre
  have := h.now_len
  omega
theorem Nst.now_sync (s : Nst) : s.sync.now = s.now := rfl
/-- Behind a crash. -/
def Nst.crash (s : Nst) (n : Int) : Nst := ⟨doN s.safe (s.ws.take n.toNat), [], [], 0⟩
theorem Nst.Ok.crash {s : Nst} (h : s.Ok) (n : Int) : (s.crash n).Ok := ⟨doN_ris h.ris _, doN_none h.none _, doN_sz h.ss (fun c hc => (h.sz c (List.mem_of_mem_take hc)).2.1), (fun c hc => by cases hc), rfl, fun i hi => absurd hi (Nat.not_lt_zero _)⟩
theorem Nst.Ok.many_crash {s : Nst} (h : s.Ok) (n : Int) : (s.crash n).many ≤ s.many := by
  show (doN s.safe (s.ws.take n.toNat)).length + 0 + 0 ≤ s.safe.length + s.ws.length + s.pre
  have h1 := doN_len h.ris (s.ws.take n.toNat)
  rw [List.length_take] at h1
  omega
theorem Nst.now_crash (s : Nst) (n : Int) : (s.crash n).now = doN s.safe (s.ws.take n.toNat) := rfl
theorem right_ne {s : ByteArray} (h : rightN s = true) : s ≠ noN := fun e => by
  have := (rightN_size h).1
  rw [e] at this
  exact absurd this (by decide)
theorem has_ne {l : List Nt} {s : ByteArray} (h : hasK Nt.nm l noN = false) (hs : hasK Nt.nm l s = true) : s ≠ noN := fun e => by
  rw [e, h] at hs; cases hs
theorem crE_zero {l : List Nt} {s : ByteArray} (h : crE l s = 0) : rightN s = true ∧ l.length ≤ 15 := by
  unfold crE at h
  split at h
  · rename_i h1
    split at h
    · cases h
    · split at h
      · cases h
      · exact ⟨h1, by omega⟩
  · cases h
theorem rnE_zero {l : List Nt} {a b : ByteArray} (h : rnE l a b = 0) : rightN b = true ∧ hasK Nt.nm l a = true := by
  unfold rnE at h
  split at h
  · rename_i h1
    split at h
    · rename_i h2
      exact ⟨h1, h2⟩
    · cases h
  · cases h
theorem rmE_zero {l : List Nt} {a : ByteArray} (h : rmE l a = 0) : hasK Nt.nm l a = true := by
  unfold rmE at h
  split at h
  · rename_i h1
    exact h1
  · cases h
theorem idAt_mem {l : List Nt} {s : ByteArray} (h : hasK Nt.nm l s = true) : (⟨s, idAt l s⟩ : Nt) ∈ l := by
  unfold idAt
  cases e : findK Nt.nm l s with
  | none => rw [← findK_some, e] at h; cases h
  | some x =>
    obtain ⟨h1, h2⟩ := findK_at e
    have : (⟨s, x.id⟩ : Nt) = x := by rw [← h1]
    rw [this]
    exact h2
theorem Nst.Ok.create {s : Nst} (h : s.Ok) {a : ByteArray} {i : Int} (he : crE s.now a = 0) : withK Nt.nm s.now ⟨a, i⟩ = (s.more ⟨noN, a, i⟩).now := by
  rw [Nst.now_more]
  exact (step_create (right_ne (crE_zero he).1) h.now_none).symm
theorem Nst.Ok.rename {s : Nst} (h : s.Ok) {a b : ByteArray} (he : rnE s.now a b = 0) : withK Nt.nm (outK Nt.nm s.now a) ⟨b, idAt s.now a⟩ = (s.more ⟨a, b, 0⟩).now := by
  rw [Nst.now_more]
  obtain ⟨h1, h2⟩ := rnE_zero he
  exact (step_rename h.now_ris (has_ne h.now_none h2) (right_ne h1) (idAt_mem h2)).symm
theorem Nst.Ok.remove {s : Nst} (h : s.Ok) {a : ByteArray} (he : rmE s.now a = 0) : outK Nt.nm s.now a = (s.more ⟨a, noN, 0⟩).now := by
  rw [Nst.now_more]
  exact (step_remove (has_ne h.now_none (rmE_zero he))).symm
/-- What the reference is behind a crash. -/
def crashP (now : List Nt) (past : List (List Nt)) (n : Int) : List Nt := match past[n.toNat]? with
  | some p => p
  | none => now
theorem Nst.Ok.crashed {s : Nst} (h : s.Ok) (hp : s.pre = 0) (n : Int) : crashP s.now s.past n = (s.crash n).now := by
  rw [Nst.now_crash]
  unfold crashP
  by_cases hn : n.toNat < s.ws.length
  · have hg := h.get _ hn
    rw [hp, Nat.zero_add] at hg
    rw [hg]
  · rw [List.getElem?_eq_none (by rw [h.len, hp]; omega), List.take_of_length_le (by omega)]
    rfl
set_option maxRecDepth 100000 in
set_option maxHeartbeats 1000000 in
theorem rcrash5_any (r : Nat) (G : Nat → Prop) (now : List Nt) (past : List (List Nt)) (n : Int) (w : World) (h : RefS w r G now past) (hp : past.length ≤ 1000) :
    Calls Try.prog 26 #[.pointer (some ⟨r, 0, none⟩), .int .i64 n] w fun e w' => e = .returned (.tuple #[]) ∧ RefS w' r G (crashP now past n) [] ∧ Mod G w w' := by
  obtain ⟨An, cn, Ap, cp, pv, hB⟩ := h
  have HB := Lib.hid hB
  obtain ⟨c0, c1, f0, f1⟩ := hB.cells
  have fin : Hid (∀ (A : Option Addr) (c : Nat) (p : List Nt) (V : World), w.ownsRow 0 52 2 (.slice A p.length c) p.length (ntCells p) → (∀ k, ownS (.slice A p.length c) k → G k) → V.heap[r]? = some (.cells #[.slice A p.length c, .slice none 0 0] 32 (0, 0)) → Mod (oneB r) w V → RefS V r G p [] ∧ Mod G w V) := fun A c p V hp hg hb hm => by
    refine ⟨⟨A, c, none, 0, [], hb, own_keep hp hm (fun k hk e => ?_), World.ownsRow_nil _ _ _ _, fun i q hq => (by cases hq), HB.out.fr, hg, fun k hk => (by cases hk), fun k hk => Nat.lt_of_lt_of_le (HB.out.lt k hk) hm.size⟩, hm.mono (fun k hk => by have e : k = r := hk; subst e; exact HB.out.fr)⟩
    have e2 : k = r := e
    subst e2
    exact own_ne hp HB.out.box (by decide) hk
  obtain ⟨m, hm⟩ : ∃ m : Nat, n.toNat = m := ⟨_, rfl⟩
  by_cases hlt : m < past.length
  · obtain ⟨p, hpp⟩ : ∃ p, past[m]? = some p := ⟨_, List.getElem?_eq_getElem hlt⟩
    have HCR : Hid (crashP now past n = p) := by show _ = _; unfold crashP; rw [hm, hpp]
    obtain ⟨A, c, h1, h2, h3⟩ := hB.each m p hpp
    obtain ⟨b, o, rfl, hbB, hc⟩ := cells_of_ownD hB.row (by have := hB.row.1; omega)
    have d0 := hc m _ h1
    have HR := Lib.hid h2
    have HG := Lib.hid h3
    have hbr : b ≠ r := fun e => by
      subst e
      rcases hB.row.2 with ⟨h4, h5⟩ | ⟨g', cap, cur, h4, _, hh, _⟩
      · omega
      · simp only [Value.slice.injEq, Option.some.injEq, Addr.mk.injEq] at h4
        obtain ⟨⟨rfl, _, _⟩, _, _⟩ := h4
        rw [hB.box] at hh
        injection hh with hh
        injection hh with _ h _
        exact absurd h (by decide)
    rw [HCR.out]
    have hml : (m : Int) < (past.length : Int) := by omega
    by_cases hn : n < 0
    · obtain rfl : m = 0 := by omega
      have hpos : 0 < past.length := by omega
      have d0' : w.cell? ⟨b, o, none⟩ = some (.slice A p.length c) := d0
      clear d0
      clear hB hpp h1 h2 h3 hc hm
      go_enter Try.func26, Try.ntmps26
      go_wp2
      first | refine bodyPost_end (results_none rfl _ _ _) rfl ?_ | (rw [Exit.noGoto_normal]; refine bodyPost_end (results_none rfl _ _ _) rfl ?_)
      exact ⟨rfl, fin.out A c p _ HR.out HG.out (heap_setCell_same _ r 1 _ _ _ (heap_setCell_same w r 0 _ _ _ HB.out.box)) (((Mod.refl (oneB r) w).set ⟨r, 0, none⟩ _ (.inl rfl)).set ⟨r, 1, none⟩ _ (.inl rfl))⟩
    · have hni : n = (m : Int) := by omega
      subst hni
      clear hB hpp h1 h2 h3 hc hm
      go_enter Try.func26, Try.ntmps26
      go_wp2
      first | refine bodyPost_end (results_none rfl _ _ _) rfl ?_ | (rw [Exit.noGoto_normal]; refine bodyPost_end (results_none rfl _ _ _) rfl ?_)
      exact ⟨rfl, fin.out A c p _ HR.out HG.out (heap_setCell_same _ r 1 _ _ _ (heap_setCell_same w r 0 _ _ _ HB.out.box)) (((Mod.refl (oneB r) w).set ⟨r, 0, none⟩ _ (.inl rfl)).set ⟨r, 1, none⟩ _ (.inl rfl))⟩
  · have HCR : Hid (crashP now past n = now) := by show _ = _; unfold crashP; rw [hm, List.getElem?_eq_none (by omega)]
    have HNW := Lib.hid hB.nw
    rw [HCR.out]
    by_cases hn : n < 0
    · have h0 : past.length = 0 := by omega
      have hz : ¬ (0 : Int) < (past.length : Int) := by omega
      clear hB hm h0
      go_enter Try.func26, Try.ntmps26
      go_wp2
      first | refine bodyPost_end (results_none rfl _ _ _) rfl ?_ | (rw [Exit.noGoto_normal]; refine bodyPost_end (results_none rfl _ _ _) rfl ?_)
      exact ⟨rfl, fin.out An cn now _ HNW.out HB.out.fn (heap_setCell_same w r 1 _ _ _ HB.out.box) ((Mod.refl (oneB r) w).set ⟨r, 1, none⟩ _ (.inl rfl))⟩
    · have hz : ¬ n < (past.length : Int) := by omega
      clear hB hm
      go_enter Try.func26, Try.ntmps26
      go_wp2
      first | refine bodyPost_end (results_none rfl _ _ _) rfl ?_ | (rw [Exit.noGoto_normal]; refine bodyPost_end (results_none rfl _ _ _) rfl ?_)
      exact ⟨rfl, fin.out An cn now _ HNW.out HB.out.fn (heap_setCell_same w r 1 _ _ _ HB.out.box) ((Mod.refl (oneB r) w).set ⟨r, 1, none⟩ _ (.inl rfl))⟩
end Go.Proofs.Ytbfaefnlhcdnhaa
