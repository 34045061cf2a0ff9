/- Layer 5: Sync. -/
import Derived.Test.YtbfaefnlhcdnhaaNdD
namespace Go.Proofs.Ytbfaefnlhcdnhaa
open Go.RowKit Go.Maps

theorem map_ne_box {w : World} {d b : Nat} {l : List Nt} {cs : Array Value} {t : TypeId} (h : MapN w b l) (hb : w.heap[d]? = some (.cells cs t (0, 0))) : b ≠ d := fun e => by
  subst e
  obtain ⟨es, cl, h2, _⟩ := h
  rw [hb] at h2
  cases h2
theorem row_ne_map {w : World} {b n base k : Nat} {e : TypeId} {v : Value} {xs : List Value} {l : List Nt} (h : w.ownsRow base e k v n xs) (hm : MapN w b l) : ¬ ownS v b := fun hk => by
  obtain ⟨es, cl, h2, _⟩ := hm
  rcases h.2 with ⟨rfl, _⟩ | ⟨g', cap, cur, rfl, _, hh, _⟩
  · cases hk
  · injection hk with hk
    subst hk
    rw [h2] at hh
    cases hh
/-- What is safe becomes what is now; nothing waits. -/
theorem sync_end {w w1 : World} {d : Nat} {F : Nat → Prop} {bn bs bk : Option Nat} {Aw : Option Addr} {cw : Nat} {now safe : List Nt} {ws : List Ch} {V : World} (hD : DirB w d F bn bs Aw cw now safe ws) (hb : Below w.heap.size w w1)
    (hk : MapO w1 bk now) (hkn : ∀ b, bk = some b → w.heap.size ≤ b ∧ b < w1.heap.size) (hV : (w1.setCell ⟨d, 1, none⟩ (.map bk)).setCell ⟨d, 2, none⟩ (.slice none 0 0) = V) : ∃ F', DirS V d F' now now [] ∧ StepF F F' w V := by
  have hdl := hD.lt d hD.fd
  have h1 := hD.keep (Mod.of_below hb) (fun _ _ h => h)
  have hbox : V.heap[d]? = some (.cells (dirC bn bk none 0 0) 28 (0, 0)) := by
    rw [← hV]
    exact heap_setCell_same _ d 2 _ _ _ (heap_setCell_same w1 d 1 _ _ _ h1.box)
  have hm : Mod (oneB d) w1 V := by rw [← hV]; exact ((Mod.refl (oneB d) w1).set ⟨d, 1, none⟩ _ (.inl rfl)).set ⟨d, 2, none⟩ _ (.inl rfl)
  have hnd : ∀ {o : Option Nat} {l : List Nt}, MapO w1 o l → ∀ b, o = some b → ¬ oneB d b := fun h b hb' e => by
    rcases h with ⟨h, _⟩ | ⟨b', h, hm'⟩
    · rw [h] at hb'; cases hb'
    · rw [h] at hb'
      injection hb' with hb'
      subst hb'
      exact map_ne_box hm' h1.box e
  refine ⟨fun k => F k ∨ bk = some k, ⟨bn, bk, none, 0, ⟨hbox, h1.now.keep hm (hnd h1.now), hk.keep hm (hnd hk), World.ownsRow_nil _ _ _ _, .inl hD.fd, fun b hb' => .inl (hD.fn b hb'), fun b hb' => .inr hb', fun b hb' => (by cases hb'), fun b hb' hb2 => ?_, ?_⟩⟩, ⟨?_, ?_⟩⟩
  · have := hD.lt b (hD.fn b hb')
    have := (hkn b hb2).1
    omega
  · rintro k (hk' | hk')
    · exact Nat.lt_of_lt_of_le (hD.lt k hk') (Nat.le_trans hb.size hm.size)
    · exact Nat.lt_of_lt_of_le (hkn k hk').2 hm.size
  · exact ((Mod.of_below hb).mono (T := F) (fun _ h => h.elim)).trans hm (fun k hk' => .inl (by have e : k = d := hk'; subst e; exact hD.fd))
  · rintro k (hk' | hk')
    · exact .inl hk'
    · exact .inr (hkn k hk').1
set_option maxRecDepth 100000 in
set_option maxHeartbeats 1000000 in
theorem sync5_any (d : Nat) (F : Nat → Prop) (now safe : List Nt) (ws : List Ch) (w : World) (h : DirS w d F now safe ws) :
    Calls Try.prog 12 #[.pointer (some ⟨d, 0, none⟩)] w fun e w' => e = .returned (.tuple #[]) ∧ ∃ F', DirS w' d F' now now [] ∧ StepF F F' w w' := by
  obtain ⟨bn, bs, Aw, cw, hD⟩ := h
  have HD := Lib.hid hD
  obtain ⟨c0, c1, c2, f0, f1, f2⟩ := hD.cells
  rcases hD.now with ⟨rfl, rfl⟩ | ⟨b, rfl, hm⟩
  · have HK := Lib.hid (AnyW.maps_Clone_nil Try.clone27 w)
    clear hD
    go_enter Try.func12, Try.ntmps12
    go_wp2_with (go_at_call 27; refine HK.out.mono ?_; rintro e w1 ⟨rfl, hw1⟩; subst hw1)
    first | refine bodyPost_end (results_none rfl _ _ _) rfl ?_ | (rw [Exit.noGoto_normal]; refine bodyPost_end (results_none rfl _ _ _) rfl ?_)
    exact ⟨rfl, sync_end HD.out (Below.refl _ _) (.inl ⟨rfl, rfl⟩) (fun b hb => by cases hb) rfl⟩
  · have HK := Lib.hid (AnyW.maps_Clone_owns Try.clone27 _ _ b now.length (dirD now) w hm)
    clear hD hm
    go_enter Try.func12, Try.ntmps12
    go_wp2_with (go_at_call 27; refine HK.out.mono ?_; rintro e w1 ⟨rfl, h1, _, hb⟩; have HN1 : Hid (MapN w1 w.heap.size now) := h1; have HB1 := Lib.hid hb; have hx := (HD.out.keep (Mod.of_below hb) (fun _ _ h => h)).cells; obtain ⟨d0, d1, d2, g0, g1, g2⟩ := hx; clear h1 hb)
    first | refine bodyPost_end (results_none rfl _ _ _) rfl ?_ | (rw [Exit.noGoto_normal]; refine bodyPost_end (results_none rfl _ _ _) rfl ?_)
    exact ⟨rfl, sync_end HD.out HB1.out (.inr ⟨_, rfl, HN1.out⟩) (fun b' hb' => by injection hb' with hb'; subst hb'; exact ⟨Nat.le_refl _, HN1.out.lt⟩) rfl⟩
end Go.Proofs.Ytbfaefnlhcdnhaa
