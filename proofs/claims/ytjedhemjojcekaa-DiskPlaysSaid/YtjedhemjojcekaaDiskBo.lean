/- Layer 4: the disk and the document's, side by side, over the same bytes. -/
import Derived.Test.YtjedhemjojcekaaDiskRw
import Derived.Test.YtjedhemjojcekaaDiskPlain
import Derived.Test.YtjedhemjojcekaaDiskWhole
namespace Go.Proofs.Ytjedhemjojcekaa
open Go.RowKit
attribute [local go_sem ↓] Go.wp_at_zero Go.wp_at_succ

theorem own_type {w : World} {base : Nat} {e : TypeId} {size : Nat} {v : Value} {n : Nat} {xs : List Value} (h : w.ownsRow base e size v n xs) : ∀ k, ownS v k → (∃ cs, w.heap[k]? = some (.cells cs e (0, 0))) ∧ base ≤ k := by
  intro k hk
  obtain ⟨_, h2⟩ := h
  rcases h2 with ⟨rfl, _⟩ | ⟨g, cap, cur, rfl, hg, hh, _⟩
  · cases hk
  · have : g = k := by simpa [ownS, Value.ownBlock] using hk
    subst this
    exact ⟨⟨cur, hh⟩, hg⟩
/-- The types of the blocks of the one, and of the other. -/
theorem DkS.types {w : World} {g base : Nat} {S : Nat → Prop} {now safe : List UInt8} {waits : List (Nat × List UInt8)} (h : DkS w g base S now safe waits) :
    ∀ k, S k → ∃ cs t, w.heap[k]? = some (.cells cs t (0, 0)) ∧ (t = 28 ∨ t = 5 ∨ t = 58) := by
  obtain ⟨L, A1, c1, A2, c2, A3, c3, h, _, rfl⟩ := h
  rintro k (hk | hk | hk | hk)
  · rw [show k = g from hk]
    exact ⟨_, _, h.blk, .inl rfl⟩
  · obtain ⟨⟨cs, hc⟩, _⟩ := own_type h.o1 k hk
    exact ⟨cs, _, hc, .inr (.inl rfl)⟩
  · obtain ⟨⟨cs, hc⟩, _⟩ := own_type h.o2 k hk
    exact ⟨cs, _, hc, .inr (.inl rfl)⟩
  · obtain ⟨⟨cs, hc⟩, _⟩ := own_type h.o3 k hk
    exact ⟨cs, _, hc, .inr (.inr rfl)⟩
theorem RfS.types {w : World} {g base : Nat} {S : Nat → Prop} {now safe : List UInt8} {waits : List (Nat × List UInt8)} (h : RfS w g base S now safe waits) :
    ∀ k, S k → ∃ cs t, w.heap[k]? = some (.cells cs t (0, 0)) ∧ (t = 33 ∨ t = 9 ∨ t = 4 ∨ t = 54) := by
  obtain ⟨A1, c1, A2, c2, A3, c3, A4, c4, h, rfl⟩ := h
  rintro k (hk | hk | hk | hk | hk)
  · rw [show k = g from hk]
    exact ⟨_, _, h.blk, .inl rfl⟩
  · obtain ⟨⟨cs, hc⟩, _⟩ := own_type h.o1 k hk
    exact ⟨cs, _, hc, .inr (.inl rfl)⟩
  · obtain ⟨⟨cs, hc⟩, _⟩ := own_type h.o2 k hk
    exact ⟨cs, _, hc, .inr (.inl rfl)⟩
  · obtain ⟨⟨cs, hc⟩, _⟩ := own_type h.o3 k hk
    exact ⟨cs, _, hc, .inr (.inr (.inl rfl))⟩
  · obtain ⟨⟨cs, hc⟩, _⟩ := own_type h.o4 k hk
    exact ⟨cs, _, hc, .inr (.inr (.inr rfl))⟩
theorem both_apart {w : World} {g g' base base' : Nat} {S S' : Nat → Prop} {now safe now' safe' : List UInt8} {waits waits' : List (Nat × List UInt8)} (h : DkS w g base S now safe waits) (h' : RfS w g' base' S' now' safe' waits') : ∀ k, S k → ¬ S' k := by
  intro k hk hk'
  obtain ⟨cs, t, e1, ht⟩ := h.types k hk
  obtain ⟨cs', t', e2, ht'⟩ := h'.types k hk'
  rw [e1] at e2
  injection e2 with e2
  injection e2 with _ e3 _
  subst e3
  rcases ht with rfl | rfl | rfl <;> rcases ht' with h | h | h | h <;> exact absurd h (by decide)
/-- What the other one changes does not touch the one. -/
theorem DkS.sep {w w' : World} {g g' base base' : Nat} {S S' : Nat → Prop} {now safe now' safe' : List UInt8} {waits waits' : List (Nat × List UInt8)} (h : DkS w g base S now safe waits) (h' : RfS w g' base' S' now' safe' waits') (hm : Mod S' w w') : DkS w' g base S now safe waits := by
  have hd := both_apart h h'
  have ht := h'.types
  obtain ⟨L, A1, c1, A2, c2, A3, c3, h, e1, rfl⟩ := h
  refine ⟨L, A1, c1, A2, c2, A3, c3, ⟨hm.keep h.blk (hd g (dS_g ..)), own_keep h.o1 hm (fun k hk => hd k (dS_1 k hk)), own_keep h.o2 hm (fun k hk => hd k (dS_2 k hk)), own_keep h.o3 hm (fun k hk => hd k (dS_3 k hk)), h.apart, fun x hx => ?_⟩, e1, rfl⟩
  obtain ⟨b, o, cs, fr, e2, hb, hh, hc⟩ := h.kept x hx
  refine ⟨b, o, cs, fr, e2, hb, hm.keep hh (fun hk => ?_), hc⟩
  obtain ⟨cs', t', e3, ht'⟩ := ht b hk
  rw [hh] at e3
  injection e3 with e3
  injection e3 with _ e4 _
  rcases ht' with h | h | h | h <;> rw [← e4] at h <;> exact absurd h (by decide)
theorem RfL.sep {w w' : World} {S : Nat → Prop} {g base : Nat} {nw sf : List (List UInt8)} {hs : List Bool} {wt : List (Nat × List UInt8)} {A1 A2 A3 A4 : Option Addr} {c1 c2 c3 c4 : Nat} (h : RfL w g base nw sf hs wt A1 c1 A2 c2 A3 c3 A4 c4) (hm : Mod S w w')
    (hd : ∀ k, rS g (.slice A1 nw.length c1) (.slice A2 sf.length c2) (.slice A3 hs.length c3) (.slice A4 wt.length c4) k → ¬ S k) : RfL w' g base nw sf hs wt A1 c1 A2 c2 A3 c3 A4 c4 :=
  ⟨hm.keep h.blk (hd g (.inl rfl)), own_keep h.o1 hm (fun k hk => hd k (rS_1 k hk)), own_keep h.o2 hm (fun k hk => hd k (rS_2 k hk)), own_keep h.o3 hm (fun k hk => hd k (rS_3 k hk)), own_keep h.o4 hm (fun k hk => hd k (rS_4 k hk)), h.apart⟩
theorem RfS.sep {w w' : World} {g g' base base' : Nat} {S S' : Nat → Prop} {now safe now' safe' : List UInt8} {waits waits' : List (Nat × List UInt8)} (h : RfS w g base S now safe waits) (h' : DkS w g' base' S' now' safe' waits') (hm : Mod S' w w') : RfS w' g base S now safe waits := by
  have hd := both_apart h' h
  obtain ⟨A1, c1, A2, c2, A3, c3, A4, c4, h, rfl⟩ := h
  exact ⟨A1, c1, A2, c2, A3, c3, A4, c4, h.sep hm (fun k hk hk' => hd k hk' hk), rfl⟩
theorem RfS.keep {w w' : World} {g base : Nat} {S : Nat → Prop} {now safe : List UInt8} {waits : List (Nat × List UInt8)} (h : RfS w g base S now safe waits) (hm : Mod noB w w') : RfS w' g base S now safe waits := by
  obtain ⟨A1, c1, A2, c2, A3, c3, A4, c4, h, rfl⟩ := h
  exact ⟨A1, c1, A2, c2, A3, c3, A4, c4, h.keep hm, rfl⟩
theorem DkS.keep0 {w w' : World} {g base : Nat} {S : Nat → Prop} {now safe : List UInt8} {waits : List (Nat × List UInt8)} (h : DkS w g base S now safe waits) (hm : Mod noB w w') : DkS w' g base S now safe waits := h.keep hm (fun _ hk => hk.elim)

/-- Both over the same bytes; their blocks are none of those ahead of base. -/
structure Both (w : World) (gd gm base : Nat) (S1 S2 : Nat → Prop) (now safe : List UInt8) (waits : List (Nat × List UInt8)) : Prop where
  dk : DkS w gd base S1 now safe waits
  rf : RfS w gm base S2 now safe waits
  good : Good now safe waits
  b1 : ∀ k, S1 k → base ≤ k
  b2 : ∀ k, S2 k → base ≤ k
theorem Both.keep {w w' : World} {gd gm base : Nat} {S1 S2 : Nat → Prop} {now safe : List UInt8} {waits : List (Nat × List UInt8)} (h : Both w gd gm base S1 S2 now safe waits) (hm : Mod noB w w') : Both w' gd gm base S1 S2 now safe waits :=
  ⟨h.dk.keep0 hm, h.rf.keep hm, h.good, h.b1, h.b2⟩

theorem rwrite_bad (g : Nat) (A : Option Addr) (l c : Nat) (p : Int) (w : World) (p0 : -9223372036854775808 ≤ p) (p1 : p ≤ 9223372036854775807) (hl : l ≤ 1099511627776) (hok : okW p (l : Int) = false) :
    Calls Try.prog 11 #[.pointer (some ⟨g, 0, none⟩), .int .i64 p, .slice A l c] w fun e w' => e = .returned (.int .i64 1) ∧ w = w' := by
  have HRT := Lib.hid (right_any p (l : Int) w (by omega) (by omega) (by omega) (by omega))
  rw [hok] at HRT
  clear hok
  go_enter Try.func11, Try.ntmps11
  go_wp2_with (go_at_call 20; refine HRT.out.mono ?_; rintro e w' ⟨rfl, rfl⟩)
  go_ret
  exact ⟨rfl, rfl⟩
theorem rwrite_none (g : Nat) (A : Option Addr) (c : Nat) (p : Int) (w : World) (p0 : -9223372036854775808 ≤ p) (p1 : p ≤ 9223372036854775807) (hok : okW p 0 = true) :
    Calls Try.prog 11 #[.pointer (some ⟨g, 0, none⟩), .int .i64 p, .slice A 0 c] w fun e w' => e = .returned (.int .i64 0) ∧ w = w' := by
  have HRT := Lib.hid (right_any p 0 w (by omega) (by omega) (by omega) (by omega))
  rw [hok] at HRT
  clear hok
  go_enter Try.func11, Try.ntmps11
  go_wp2_with (go_at_call 20; refine HRT.out.mono ?_; rintro e w' ⟨rfl, rfl⟩)
  go_ret
  exact ⟨rfl, rfl⟩

/-- A write, of both alike. -/
theorem write_both (base : Nat) (now safe : List UInt8) (waits : List (Nat × List UInt8)) (B : Option Addr) (bl bc : Nat) (bs : List UInt8) (p : Int) (hbl : bs.length = bl) (hb3 : bl ≤ 3000) (hbc : bl ≤ bc) (p0 : -9223372036854775808 ≤ p) (p1 : p ≤ 9223372036854775807) (hg : Good now safe waits) (hw : waits.length ≤ 1000000) :
    ∃ (r : Int) (now' : List UInt8) (waits' : List (Nat × List UInt8)), Good now' safe waits' ∧ waits'.length ≤ waits.length + 10 ∧
      (∀ (W : World) (gd : Nat) (S : Nat → Prop), DkS W gd base S now safe waits → base ≤ W.heap.size → (0 < bl → Kept W S B (byteCells bs)) →
        Calls Try.prog 8 #[.pointer (some ⟨gd, 0, none⟩), .int .i64 p, .slice B bl bc] W fun e w' => e = .returned (.int .i64 r) ∧ ∃ S', DkS w' gd base S' now' safe waits' ∧ Mod S W w' ∧ ∀ k, S' k → S k ∨ W.heap.size ≤ k) ∧
      (∀ (W : World) (gm : Nat) (S : Nat → Prop), RfS W gm base S now safe waits → base ≤ W.heap.size → (0 < bl → Kept W S B (byteCells bs)) →
        Calls Try.prog 11 #[.pointer (some ⟨gm, 0, none⟩), .int .i64 p, .slice B bl bc] W fun e w' => e = .returned (.int .i64 r) ∧ ∃ S', RfS w' gm base S' now' safe waits' ∧ Mod S W w' ∧ ∀ k, S' k → S k ∨ W.heap.size ≤ k) := by
  cases hok : okW p (bl : Int) with
  | false =>
    refine ⟨1, now, waits, hg, by omega, fun W gd S h _ _ => (write_bad gd B bl bc p W p0 p1 (by omega) hok).mono ?_, fun W gm S h _ _ => (rwrite_bad gm B bl bc p W p0 p1 (by omega) hok).mono ?_⟩
    · rintro e w' ⟨rfl, rfl⟩
      exact ⟨rfl, S, h, Mod.refl _ _, fun k hk => .inl hk⟩
    · rintro e w' ⟨rfl, rfl⟩
      exact ⟨rfl, S, h, Mod.refl _ _, fun k hk => .inl hk⟩
  | true =>
    have hp : 0 ≤ p := by simp [okW] at hok; omega
    obtain ⟨q, rfl⟩ := Int.eq_ofNat_of_zero_le hp
    have hpn : q + bl ≤ 2097152 := by simp [okW] at hok; omega
    by_cases h0 : bl = 0
    · subst h0
      refine ⟨0, now, waits, hg, by omega, fun W gd S h _ _ => (write_none gd base S now safe waits B bc q W h hg.top hok).mono ?_, fun W gm S h _ _ => (rwrite_none gm B bc q W p0 p1 hok).mono ?_⟩
      · rintro e w' ⟨rfl, rfl⟩
        exact ⟨rfl, S, h, Mod.refl _ _, fun k hk => .inl hk⟩
      · rintro e w' ⟨rfl, rfl⟩
        exact ⟨rfl, S, h, Mod.refl _ _, fun k hk => .inl hk⟩
    · refine ⟨0, writeNow now q bs, waits ++ writeWt now q bs, hg.write (by rw [hbl]; exact hpn) (by omega), ?_, fun W gd S h hb hk => write_any gd base S now safe waits B bl bc q bs W h hg hb (by omega) hbl (by omega) (hk (by omega)) hok,
        fun W gm S h hb hk => rwrite_any gm base S now safe waits B bl bc q bs W h hg hb (by omega) hbl (by omega) hbc (hk (by omega)) hok⟩
      rw [List.length_append]
      unfold writeWt
      rw [secs_length, hbl]
      omega
end Go.Proofs.Ytjedhemjojcekaa
