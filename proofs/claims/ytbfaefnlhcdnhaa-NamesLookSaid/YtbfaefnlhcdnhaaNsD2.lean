/- Layer 5: Remove of both. -/
import Derived.Test.YtbfaefnlhcdnhaaNsD
namespace Go.Proofs.Ytbfaefnlhcdnhaa
open Go.RowKit Go.Maps

set_option maxRecDepth 100000 in
set_option maxHeartbeats 2000000 in
theorem does_2 (d r : Nat) (F G : Nat → Prop) (s : Nst) (a b : ByteArray) (n : Int) (w : World) (h : BothN w d r F G s) (hm : s.many ≤ 900) (ha : a.size ≤ 1000) :
    Calls Try.prog 9 #[.pointer (some ⟨d, 0, none⟩), .pointer (some ⟨r, 0, none⟩), .agg #[.int .i64 2, .string a, .string b, .int .i64 n]] w fun e w' => e = .returned (.bool true) ∧ ∃ F' G', Went w w' d r F G (pickS (rmE s.now a) s ⟨a, noN, 0⟩) F' G' := by
  have HB := Lib.hid h
  have hnl := h.ok.now_len
  have hwl := s.ws_le
  have hpl := h.ok.len
  have HD1 := Lib.hid (fun W (hW : Mod noB w W) => remove5_any d F s.now s.safe s.ws a W (h.dir.keep hW (fun _ _ h => h)) h.ok.now_ris (by omega) (by omega) ha)
  have HR1 := Lib.hid (fun w5 (h5 : Mod F w w5) W (hW : Mod noB w5 W) => rremove5_any r G s.now s.past a W ((h.ref.keep h5 (fun k hg hf => h.apart k hf hg)).keep hW (fun _ _ h => h)) h.ok.now_ris (by omega) (by omega))
  have HOK : Hid ((pickS (rmE s.now a) s ⟨a, noN, 0⟩).Ok) := by
    show Nst.Ok _
    unfold pickS
    split
    · rename_i h0
      exact h.ok.more _ ⟨ha, (show noN.size ≤ 1000 by decide), wf0⟩
    · exact h.ok
  have HL : Hid (rmE s.now a = 0 → outK Nt.nm s.now a = (s.more ⟨a, noN, 0⟩).now) := (fun h0 => h.ok.remove h0)
  have HX : Hid (∀ w5, Mod F (w.alloc (.cells #[.int .i64 2, .string a, .string b, .int .i64 n] 37)) w5 → w5.heap[w.heap.size]? = some (.cells #[.int .i64 2, .string a, .string b, .int .i64 n] 37 (0, 0))) := fun w5 h5 => h5.keep (heap_alloc_new w _) (fun hf => by have := HB.out.dir.lt _ hf; omega)
  have mixed : Try.prog.follows Departure.mixedOrders = true := by kernel_rfl
  obtain ⟨EE, hEE⟩ : ∃ EE, rmE s.now a = EE := ⟨_, rfl⟩
  rw [hEE] at HD1 HR1 HOK HL ⊢
  clear h hnl hwl hpl hm hEE
  go_enter Try.func9, Try.ntmps9
  go_wp2_with fail
  go_region_with (first
    | (go_at_call 19; go_must (skip; have hmw : Mod noB w (w.alloc (.cells #[.int .i64 2, .string a, .string b, .int .i64 n] 37)).drew := ((Mod.refl noB w).alloc _).drew; refine (HD1.out _ hmw).mono ?_; rintro e w5 ⟨rfl, F', hd, hst⟩; have HD5 := Lib.hid hd; have HS5 := Lib.hid hst; have HM5 : Hid (Mod F w w5) := (hmw.mono (T := F) (fun _ h => h.elim)).then_ hst.mod; obtain ⟨x0, x1, x2, x3⟩ := row4_cells (HX.out w5 ⟨hst.mod.os, hst.mod.tape, hst.mod.output, hst.mod.size, hst.mod.block⟩); have HMW := Lib.hid hmw; clear hd hst hmw))
    | (go_at_call 25; refine (HR1.out w5 HM5.out _ (by first | exact Mod.refl _ _ | exact (Mod.refl _ _).drew)).mono ?_; rintro e w7 ⟨rfl, G', hr, hst⟩; have HR7 := Lib.hid hr; have HS7 := Lib.hid hst; clear hr hst))
  all_goals (try go_wp2)
  all_goals go_ret
  all_goals
    obtain ⟨k1, k2⟩ := ch_pair HD5.out HR7.out HL.out
    exact ⟨rfl, F', G', went_of HB.out HMW.out k1 HS5.out (by first | exact Mod.refl noB _ | exact (Mod.refl noB _).drew) k2 HS7.out HOK.out⟩
end Go.Proofs.Ytbfaefnlhcdnhaa
