/- Layer 5: Sync and Crash of both. -/
import Derived.Test.YtbfaefnlhcdnhaaNsD
namespace Go.Proofs.Ytbfaefnlhcdnhaa
open Go.RowKit Go.Maps

theorem ref_sync {w5 w7 : World} {r : Nat} {G : Nat → Prop} {now : List Nt} {past : List (List Nt)} (h : RefS w5 r G now past) (hw : w5.setCell ⟨r, 1, none⟩ (.slice none 0 0) = w7) : RefS w7 r G now [] ∧ StepF G G w5 w7 := by
  obtain ⟨An, cn, Ap, cp, pv, h⟩ := h
  have hm : Mod (oneB r) w5 w7 := by rw [← hw]; exact (Mod.refl (oneB r) w5).set ⟨r, 1, none⟩ _ (.inl rfl)
  have hb : w7.heap[r]? = some (.cells #[.slice An now.length cn, .slice none 0 0] 32 (0, 0)) := by rw [← hw]; exact heap_setCell_same w5 r 1 _ _ _ h.box
  refine ⟨⟨An, cn, none, 0, [], hb, own_keep h.nw hm (fun k hk e => ?_), World.ownsRow_nil _ _ _ _, fun i q hq => (by cases hq), h.fr, h.fn, fun k hk => (by cases hk), fun k hk => Nat.lt_of_lt_of_le (h.lt k hk) hm.size⟩, ⟨hm.mono (fun k hk => by have e : k = r := hk; subst e; exact h.fr), fun k hk => .inl hk⟩⟩
  have e2 : k = r := e
  subst e2
  exact own_ne h.nw h.box (by decide) hk
set_option maxRecDepth 100000 in
set_option maxHeartbeats 2000000 in
theorem does_3 (d r : Nat) (F G : Nat → Prop) (s : Nst) (a b : ByteArray) (n : Int) (w : World) (h : BothN w d r F G s) :
    Calls Try.prog 9 #[.pointer (some ⟨d, 0, none⟩), .pointer (some ⟨r, 0, none⟩), .agg #[.int .i64 3, .string a, .string b, .int .i64 n]] w fun e w' => e = .returned (.bool true) ∧ ∃ F' G', Went w w' d r F G s.sync F' G' := by
  have HB := Lib.hid h
  obtain ⟨W, hW⟩ : ∃ W, w.alloc (.cells #[.int .i64 3, .string a, .string b, .int .i64 n] 37) = W := ⟨_, rfl⟩
  have HMW : Hid (Mod noB w W) := by show Mod _ _ _; rw [← hW]; exact (Mod.refl noB w).alloc _
  have hx0 : W.heap[w.heap.size]? = some (.cells #[.int .i64 3, .string a, .string b, .int .i64 n] 37 (0, 0)) := by rw [← hW]; exact heap_alloc_new w _
  obtain ⟨x0, x1, x2, x3⟩ := row4_cells hx0
  have HSY := Lib.hid (sync5_any d F s.now s.safe s.ws W (h.dir.keep HMW.out (fun _ _ h => h)))
  clear h
  go_enter Try.func9, Try.ntmps9
  go_wp2_with (go_at_call 12; refine HSY.out.mono ?_; rintro e w5 ⟨rfl, F', hd, hst⟩; have HD5 := Lib.hid hd; have HS5 := Lib.hid hst; have HR5 := Lib.hid (HB.out.ref.keep ((HMW.out.mono (T := F) (fun _ h => h.elim)).then_ hst.mod) (fun k hg hf => HB.out.apart k hf hg)); obtain ⟨_, _, _, _, _, hrb⟩ := HR5.out; obtain ⟨y0, y1, g0, g1⟩ := hrb.cells; clear hd hst hrb)
  go_ret
  obtain ⟨k1, k2⟩ := ref_sync HR5.out rfl
  exact ⟨rfl, F', G, went_of HB.out HMW.out (s := s.sync) HD5.out HS5.out (Mod.refl noB _) k1 k2 HB.out.ok.sync⟩
set_option maxRecDepth 100000 in
set_option maxHeartbeats 2000000 in
theorem does_4 (d r : Nat) (F G : Nat → Prop) (s : Nst) (kind : Int) (a b : ByteArray) (n : Int) (w : World) (h : BothN w d r F G s) (hm : s.many ≤ 900) (h0 : kind ≠ 0) (h1 : kind ≠ 1) (h2 : kind ≠ 2) (h3 : kind ≠ 3) (hpre : s.pre = 0) :
    Calls Try.prog 9 #[.pointer (some ⟨d, 0, none⟩), .pointer (some ⟨r, 0, none⟩), .agg #[.int .i64 kind, .string a, .string b, .int .i64 n]] w fun e w' => e = .returned (.bool true) ∧ ∃ F' G', Went w w' d r F G (s.crash n) F' G' := by
  have HB := Lib.hid h
  have hwl := s.ws_le
  have hpl := h.ok.len
  obtain ⟨W, hW⟩ : ∃ W, w.alloc (.cells #[.int .i64 kind, .string a, .string b, .int .i64 n] 37) = W := ⟨_, rfl⟩
  have HMW : Hid (Mod noB w W) := by show Mod _ _ _; rw [← hW]; exact (Mod.refl noB w).alloc _
  have hx0 : W.heap[w.heap.size]? = some (.cells #[.int .i64 kind, .string a, .string b, .int .i64 n] 37 (0, 0)) := by rw [← hW]; exact heap_alloc_new w _
  have HX : Hid (∀ w5, Mod F W w5 → w5.heap[w.heap.size]? = some (.cells #[.int .i64 kind, .string a, .string b, .int .i64 n] 37 (0, 0))) := fun w5 h5 => h5.keep hx0 (fun hf => by have := HB.out.dir.lt _ hf; omega)
  have HCR := Lib.hid (crash5_any d F s.now s.safe s.ws n W (h.dir.keep HMW.out (fun _ _ h => h)) h.ok.ris (by omega) (by omega) h.ok.sz)
  have HRC := Lib.hid (fun w5 (h5 : RefS w5 r G s.now s.past) => rcrash5_any r G s.now s.past n w5 h5 (by omega))
  have HCE := Lib.hid (h.ok.crashed hpre n)
  have e0 : (kind == 0) = false := by simpa using h0
  have e1 : (kind == 1) = false := by simpa using h1
  have e2 : (kind == 2) = false := by simpa using h2
  have e3 : (kind == 3) = false := by simpa using h3
  obtain ⟨x0, x1, x2, x3⟩ := row4_cells hx0
  clear h hx0 hwl hpl hm hpre
  go_enter Try.func9, Try.ntmps9
  go_wp2_with (first
    | (go_at_call 13; refine HCR.out.mono ?_; rintro e w5 ⟨rfl, F', hd, hst⟩; have HD5 := Lib.hid hd; have HS5 := Lib.hid hst; have HR5 := Lib.hid (HB.out.ref.keep ((HMW.out.mono (T := F) (fun _ h => h.elim)).then_ hst.mod) (fun k hg hf => HB.out.apart k hf hg)); obtain ⟨y0, y1, y2, y3⟩ := row4_cells (HX.out w5 hst.mod); clear hd hst)
    | (go_at_call 26; refine (HRC.out w5 HR5.out).mono ?_; rintro e w7 ⟨rfl, hr, hm⟩; rw [HCE.out] at hr; have HR7 := Lib.hid hr; have HM7 := Lib.hid hm; clear hr hm))
  go_ret
  exact ⟨rfl, F', G, went_of HB.out HMW.out (s := s.crash n) HD5.out HS5.out (Mod.refl noB _) HR7.out ⟨HM7.out, fun k hk => .inl hk⟩ (HB.out.ok.crash n)⟩
end Go.Proofs.Ytbfaefnlhcdnhaa
