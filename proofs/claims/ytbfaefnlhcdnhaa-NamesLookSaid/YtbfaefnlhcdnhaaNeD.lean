/- Layer 5: the reference's directory in memory. -/
import Derived.Test.YtbfaefnlhcdnhaaNeR
namespace Go.Proofs.Ytbfaefnlhcdnhaa
open Go.RowKit Go.Maps

/-- The reference's directory: what it is now, and all that it was; G: its blocks. -/
structure RefB (w : World) (r : Nat) (G : Nat → Prop) (An : Option Addr) (cn : Nat) (Ap : Option Addr) (cp : Nat) (now : List Nt) (past : List (List Nt)) (pv : List Value) : Prop where
  box : w.heap[r]? = some (.cells #[.slice An now.length cn, .slice Ap past.length cp] 32 (0, 0))
  nw : w.ownsRow 0 52 2 (.slice An now.length cn) now.length (ntCells now)
  row : w.ownsRow 0 29 1 (.slice Ap past.length cp) past.length pv
  each : ∀ (i : Nat) (p : List Nt), past[i]? = some p → ∃ A c, pv[i]? = some (.slice A p.length c) ∧ w.ownsRow 0 52 2 (.slice A p.length c) p.length (ntCells p) ∧ ∀ k, ownS (.slice A p.length c) k → G k
  fr : G r
  fn : ∀ k, ownS (.slice An now.length cn) k → G k
  fp : ∀ k, ownS (.slice Ap past.length cp) k → G k
  lt : ∀ k, G k → k < w.heap.size
def RefS (w : World) (r : Nat) (G : Nat → Prop) (now : List Nt) (past : List (List Nt)) : Prop := ∃ An cn Ap cp pv, RefB w r G An cn Ap cp now past pv
theorem RefB.keep {w w' : World} {r : Nat} {G S : Nat → Prop} {An : Option Addr} {cn : Nat} {Ap : Option Addr} {cp : Nat} {now : List Nt} {past : List (List Nt)} {pv : List Value} (h : RefB w r G An cn Ap cp now past pv) (hm : Mod S w w') (hS : ∀ k, G k → ¬ S k) : RefB w' r G An cn Ap cp now past pv :=
  ⟨hm.keep h.box (hS r h.fr), own_keep h.nw hm (fun k hk => hS k (h.fn k hk)), own_keep h.row hm (fun k hk => hS k (h.fp k hk)), fun i p hp => by
    obtain ⟨A, c, h1, h2, h3⟩ := h.each i p hp
    exact ⟨A, c, h1, own_keep h2 hm (fun k hk => hS k (h3 k hk)), h3⟩, h.fr, h.fn, h.fp, fun k hk => Nat.lt_of_lt_of_le (h.lt k hk) hm.size⟩
theorem RefS.keep {w w' : World} {r : Nat} {G S : Nat → Prop} {now : List Nt} {past : List (List Nt)} (h : RefS w r G now past) (hm : Mod S w w') (hS : ∀ k, G k → ¬ S k) : RefS w' r G now past := by
  obtain ⟨An, cn, Ap, cp, pv, h⟩ := h
  exact ⟨An, cn, Ap, cp, pv, h.keep hm hS⟩
theorem RefB.cells {w : World} {r : Nat} {G : Nat → Prop} {An : Option Addr} {cn : Nat} {Ap : Option Addr} {cp : Nat} {now : List Nt} {past : List (List Nt)} {pv : List Value} (h : RefB w r G An cn Ap cp now past pv) :
    w.cell? ⟨r, 0, none⟩ = some (.slice An now.length cn) ∧ w.cell? ⟨r, 1, none⟩ = some (.slice Ap past.length cp) ∧ w.frozen? ⟨r, 0, none⟩ = false ∧ w.frozen? ⟨r, 1, none⟩ = false :=
  ⟨cell_of_row _ _ _ _ _ _ h.box, cell_of_row _ _ _ _ _ _ h.box, by simp [World.frozen?, h.box], by simp [World.frozen?, h.box]⟩
theorem pastElem : Elem Try.prog 30 29 (.slice none 0 0) 1 24 := Elem.of Try.underlying30 (by kernel_rfl) (by kernel_rfl) (by omega)
/-- Rows of unlike types lie apart. -/
theorem own_apart {w : World} {b1 b2 k1 k2 n1 n2 : Nat} {e1 e2 : TypeId} {v1 v2 : Value} {xs ys : List Value} (h1 : w.ownsRow b1 e1 k1 v1 n1 xs) (h2 : w.ownsRow b2 e2 k2 v2 n2 ys) (hne : e1 ≠ e2) : ∀ k, ownS v1 k → ¬ ownS v2 k := fun k hk1 hk2 => by
  rcases h1.2 with ⟨rfl, _⟩ | ⟨g1, cap1, cur1, rfl, _, hh1, _⟩
  · cases hk1
  · rcases h2.2 with ⟨rfl, _⟩ | ⟨g2, cap2, cur2, rfl, _, hh2, _⟩
    · cases hk2
    · injection hk1 with hk1
      injection hk2 with hk2
      subst hk1 hk2
      rw [hh1] at hh2
      injection hh2 with hh2
      injection hh2 with _ h _
      exact hne h
/-- Behind 'turn': the list is new, and what was now lies behind what was. -/
theorem turn_end {w w7 V : World} {r : Nat} {G : Nat → Prop} {An Ap Al A4 : Option Addr} {cn cp cl c4 : Nat} {now l : List Nt} {past : List (List Nt)} {pv : List Value}
    (h : RefB w r G An cn Ap cp now past pv) (hl : w.ownsRow 0 52 2 (.slice Al l.length cl) l.length (ntCells l))
    (hA : App w 0 29 1 (.slice Ap past.length cp) (past.length + 1) (pv ++ [.slice An now.length cn]) w7 (.slice A4 (past.length + 1) c4))
    (hV : (w7.setCell ⟨r, 1, none⟩ (.slice A4 (past.length + 1) c4)).setCell ⟨r, 0, none⟩ (.slice Al l.length cl) = V) :
    ∃ G', RefS V r G' l (past ++ [now]) ∧ Mod G w V ∧ ∀ k, G' k → G k ∨ ownS (.slice Al l.length cl) k ∨ w.heap.size ≤ k := by
  have hmA := Mod.of_app hA
  have hbox7 := hmA.keep h.box (own_ne h.row h.box (by decide))
  have hboxV : V.heap[r]? = some (.cells #[.slice Al l.length cl, .slice A4 (past.length + 1) c4] 32 (0, 0)) := by
    rw [← hV]
    exact heap_setCell_same _ r 0 _ _ _ (heap_setCell_same w7 r 1 _ _ _ hbox7)
  have hmV : Mod (oneB r) w7 V := by rw [← hV]; exact ((Mod.refl (oneB r) w7).set ⟨r, 1, none⟩ _ (.inl rfl)).set ⟨r, 0, none⟩ _ (.inl rfl)
  have hne : ∀ {W : World} {v : Value} {n k : Nat} {e : TypeId} {xs : List Value} {cs : Array Value}, W.ownsRow 0 e k v n xs → W.heap[r]? = some (.cells cs 32 (0, 0)) → e ≠ 32 → ∀ j, ownS v j → ¬ oneB r j := fun hW hb he j hj e => by
    have e2 : j = r := e
    subst e2
    exact own_ne hW hb he hj
  have keepE : ∀ {v : Value} {n : Nat} {xs : List Value}, w.ownsRow 0 52 2 v n xs → V.ownsRow 0 52 2 v n xs := fun hv => by
    have h7 := own_keep hv hmA (own_apart hv h.row (by decide))
    exact own_keep h7 hmV (hne h7 hbox7 (by decide))
  have hrowV := own_keep hA.own hmV (hne hA.own hbox7 (by decide))
  have hmw : Mod G w V := (hmA.mono (T := G) (fun k hk => h.fp k hk)).trans hmV (fun k hk => .inl (by have e : k = r := hk; subst e; exact h.fr))
  refine ⟨fun k => G k ∨ ownS (.slice Al l.length cl) k ∨ ownS (.slice A4 (past.length + 1) c4) k, ⟨Al, cl, A4, c4, pv ++ [.slice An now.length cn], ?_⟩, hmw, ?_⟩
  · have hpl : (past ++ [now]).length = past.length + 1 := by rw [List.length_append]; rfl
    have hpv : pv.length = past.length := by have := h.row.1; omega
    refine ⟨by rw [hpl]; exact hboxV, keepE hl, by rw [hpl]; exact hrowV, fun i p hp => ?_, .inl h.fr, fun k hk => .inr (.inl hk), fun k hk => .inr (.inr (by rw [hpl] at hk; exact hk)), ?_⟩
    · by_cases hi : i < past.length
      · rw [List.getElem?_append_left hi] at hp
        obtain ⟨A, c, h1, h2, h3⟩ := h.each i p hp
        exact ⟨A, c, by rw [List.getElem?_append_left (by omega)]; exact h1, keepE h2, fun k hk => .inl (h3 k hk)⟩
      · rw [List.getElem?_append_right (by omega)] at hp
        have hi2 : i - past.length = 0 := by
          rcases Nat.eq_zero_or_pos (i - past.length) with h0 | h0
          · exact h0
          · rw [List.getElem?_eq_none (by simp; omega)] at hp; cases hp
        rw [hi2] at hp
        injection hp with hp
        subst hp
        exact ⟨An, cn, by rw [List.getElem?_append_right (by omega), hpv, hi2]; rfl, keepE h.nw, fun k hk => .inl (h.fn k hk)⟩
    · rintro k (hk | hk | hk)
      · exact Nat.lt_of_lt_of_le (h.lt k hk) hmw.size
      · exact Nat.lt_of_lt_of_le (hl.lt k hk).2 hmw.size
      · exact (hrowV.lt k hk).2
  · rintro k (hk | hk | hk)
    · exact .inl hk
    · exact .inr (.inl hk)
    · rcases App.place hA k hk with h1 | h1
      · exact .inl (h.fp k h1)
      · exact .inr (.inr h1)
set_option maxRecDepth 100000 in
set_option maxHeartbeats 1000000 in
theorem turn5_any (r : Nat) (G : Nat → Prop) (An : Option Addr) (cn : Nat) (Ap : Option Addr) (cp : Nat) (now l : List Nt) (past : List (List Nt)) (pv : List Value) (Al : Option Addr) (cl : Nat) (w : World) (h : RefB w r G An cn Ap cp now past pv)
    (hl : w.ownsRow 0 52 2 (.slice Al l.length cl) l.length (ntCells l)) (hp : past.length ≤ 1000) :
    Calls Try.prog 35 #[.pointer (some ⟨r, 0, none⟩), .slice Al l.length cl] w fun e w' => e = .returned (.int .i64 0) ∧ ∃ G', RefS w' r G' l (past ++ [now]) ∧ Mod G w w' ∧ ∀ k, G' k → G k ∨ ownS (.slice Al l.length cl) k ∨ w.heap.size ≤ k := by
  have H := Lib.hid h
  have HL := Lib.hid hl
  obtain ⟨c0, c1, f0, f1⟩ := h.cells
  have ca0 : ∀ o, (w.alloc o).cell? ⟨r, 0, none⟩ = some (.slice An now.length cn) := fun o => (World.cell?_alloc_lt w o _ (Array.getElem?_eq_some_iff.1 h.box).1).trans c0
  have ca1 : ∀ o, (w.alloc o).cell? ⟨r, 1, none⟩ = some (.slice Ap past.length cp) := fun o => (World.cell?_alloc_lt w o _ (Array.getElem?_eq_some_iff.1 h.box).1).trans c1
  have mixed : Try.prog.follows Departure.mixedOrders = true := by kernel_rfl
  clear h hl
  go_enter Try.func35, Try.ntmps35
  go_wp2
  go_region_law (refine step_app1 w pastElem (by rfl) (.tmp 9) (.tmp 14) (by rfl) 0 (.slice Ap past.length cp) past.length pv (by rfl) H.out.row #[.slice An now.length cn] (by rfl) (by rfl) (by intro u hu; simp only [List.mem_cons, List.not_mem_nil, or_false] at hu; subst hu; rfl) (by unfold maxLen; omega) (by omega) (Nat.zero_le _) ?_; intro A4 c4 w7 hA; have HA := Lib.hid hA; have hb7 := (Mod.of_app hA).keep H.out.box (own_ne H.out.row H.out.box (by decide)); have e0 : w7.cell? ⟨r, 0, none⟩ = some (.slice An now.length cn) := cell_of_row _ _ 0 _ _ _ hb7; have e1 : w7.cell? ⟨r, 1, none⟩ = some (.slice Ap past.length cp) := cell_of_row _ _ 1 _ _ _ hb7; have g0 : w7.frozen? ⟨r, 0, none⟩ = false := (by simp [World.frozen?, hb7]); have g1 : w7.frozen? ⟨r, 1, none⟩ = false := (by simp [World.frozen?, hb7]); clear hA hb7)
  all_goals
    clear ca0 ca1 c0 c1 f0 f1
    go_wp2
    go_ret
    exact ⟨rfl, turn_end H.out HL.out HA.out rfl⟩
end Go.Proofs.Ytbfaefnlhcdnhaa
