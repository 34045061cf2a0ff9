/- Layer 25: the law ModelNone. -/
import Derived.Test.YtcafobnedfimhaaDoorMdLv
import Derived.Test.YtcafobnedfimhaaDoorOpens
namespace Go.Proofs.YtcafobnedfimhaaDoor
open Go.RowKit

set_option maxRecDepth 100000 in
set_option maxHeartbeats 1000000 in
theorem mdnone_any (u0 u1 u2 u3 u4 u5 u6 v0 v1 v2 v3 v4 v5 v6 x0 x1 : Value) (w : World) : Calls Tryd.prog 3 #[.agg #[u0, u1, u2, u3, u4, u5, u6], .agg #[v0, v1, v2, v3, v4, v5, v6], .agg #[x0, x1]] w fun e w' => e = .returned (.bool true) ∧ Below w.heap.size w w' := by
  have HN := Lib.hid now25_nil
  go_enter Tryd.func3, Tryd.ntmps3
  have HB3 : Hid (Below w.heap.size w (((w.alloc (.cells #[u0, u1, u2, u3, u4, u5, u6] 27)).alloc (.cells #[v0, v1, v2, v3, v4, v5, v6] 32)).alloc (.cells #[x0, x1] 34))) := (((Below.refl _ w).alloc (Nat.le_refl _) _).alloc (by simp) _).alloc (by simp; omega) _
  go_upto_region 3 with (go_at_call 4; refine (HN.out _).mono ?_; rintro e w1 ⟨rfl, rfl⟩)
  have HX3 : Hid ((((w.alloc (.cells #[u0, u1, u2, u3, u4, u5, u6] 27)).alloc (.cells #[v0, v1, v2, v3, v4, v5, v6] 32)).alloc (.cells #[x0, x1] 34)).heap[w.heap.size + 1 + 1]? = some (.cells #[x0, x1] 34 (0, 0))) := by
    have h1 := heap_alloc_new ((w.alloc (.cells #[u0, u1, u2, u3, u4, u5, u6] 27)).alloc (.cells #[v0, v1, v2, v3, v4, v5, v6] 32)) (.cells #[x0, x1] 34)
    rw [World.size_alloc, World.size_alloc] at h1
    exact h1
  have HS := Lib.hid (step25_nil #[u0, u1, u2, u3, u4, u5, u6] #[v0, v1, v2, v3, v4, v5, v6] (((w.alloc (.cells #[u0, u1, u2, u3, u4, u5, u6] 27)).alloc (.cells #[v0, v1, v2, v3, v4, v5, v6] 32)).alloc (.cells #[x0, x1] 34)))
  go_wp2_with ((first
    | (go_at_call 5; refine HS.out.mono ?_; rintro e w5 ⟨rfl, hb5⟩; have HB5 : Hid (Below w.heap.size w w5) := HB3.out.trans (hb5.mono HB3.out.size); have hx5 := (hb5.block (w.heap.size + 1 + 1) (by simp)).trans HX3.out; have d0 := cell_of_row w5 (w.heap.size + 1 + 1) 0 _ _ _ hx5; have d1 := cell_of_row w5 (w.heap.size + 1 + 1) 1 _ _ _ hx5; clear hx5 hb5)
    | (go_at_call 6; refine (can25_nil #[x0, x1] w5).mono ?_; rintro e w6 ⟨rfl, hb6⟩; have HB6 : Hid (Below w.heap.size w w6) := HB5.out.trans (hb6.mono HB5.out.size); clear hb6)
    | (go_at_call 7; refine (lives25_any w6).mono ?_; rintro e w7 ⟨rfl, hb7⟩; have HB7 : Hid (Below w.heap.size w w7) := HB6.out.trans (hb7.mono HB6.out.size); clear hb7)))
  go_ret
  exact ⟨rfl, HB7.out⟩
theorem op_lies {w : World} {a b c d e f g : Sh} {cs : Array Value} (ha : a.cells = 1) (hb : b.cells = 1) (hc : c.cells = 1) (hd : d.cells = 1) (he : e.cells = 1) (hf : f.cells = 1) (hg : g.cells = 1) (h : Lies w (.cons a (.cons b (.cons c (.cons d (.cons e (.cons f (.cons g .nil))))))) cs.toList) :
    ∃ u0 u1 u2 u3 u4 u5 u6 : Value, cs = #[u0, u1, u2, u3, u4, u5, u6] := by
  obtain ⟨l0, r0, e0, n0, _, _, h0⟩ := h
  obtain ⟨l1, r1, rfl, n1, _, _, h1⟩ := h0
  obtain ⟨l2, r2, rfl, n2, _, _, h2⟩ := h1
  obtain ⟨l3, r3, rfl, n3, _, _, h3⟩ := h2
  obtain ⟨l4, r4, rfl, n4, _, _, h4⟩ := h3
  obtain ⟨l5, r5, rfl, n5, _, _, h5⟩ := h4
  obtain ⟨l6, r6, rfl, n6, _, _, h6⟩ := h5
  have h6' : r6 = [] := h6
  subst h6'
  rw [ha] at n0; rw [hb] at n1; rw [hc] at n2; rw [hd] at n3; rw [he] at n4; rw [hf] at n5; rw [hg] at n6
  obtain ⟨u0, rfl⟩ := List.length_eq_one_iff.1 n0
  obtain ⟨u1, rfl⟩ := List.length_eq_one_iff.1 n1
  obtain ⟨u2, rfl⟩ := List.length_eq_one_iff.1 n2
  obtain ⟨u3, rfl⟩ := List.length_eq_one_iff.1 n3
  obtain ⟨u4, rfl⟩ := List.length_eq_one_iff.1 n4
  obtain ⟨u5, rfl⟩ := List.length_eq_one_iff.1 n5
  obtain ⟨u6, rfl⟩ := List.length_eq_one_iff.1 n6
  refine ⟨u0, u1, u2, u3, u4, u5, u6, ?_⟩
  apply Array.toList_inj.1
  rw [e0]
  rfl
theorem op5_lies {w : World} {a b c d e f g : Sh} {cs : Array Value} (ha : a.cells = 1) (hb : b.cells = 1) (hc : c.cells = 1) (hd : d.cells = 1) (he : e.cells = 1) (hf : f.cells = 1) (hg : g.cells = 1) (h : Lies w (.cons a (.cons b (.cons c (.cons d (.cons (.cons e (.cons f (.cons g .nil))) .nil))))) cs.toList) :
    ∃ u0 u1 u2 u3 u4 u5 u6 : Value, cs = #[u0, u1, u2, u3, u4, u5, u6] := by
  obtain ⟨l0, r0, e0, n0, _, _, h0⟩ := h
  obtain ⟨l1, r1, rfl, n1, _, _, h1⟩ := h0
  obtain ⟨l2, r2, rfl, n2, _, _, h2⟩ := h1
  obtain ⟨l3, r3, rfl, n3, _, _, h3⟩ := h2
  obtain ⟨lx, rx, rfl, _, _, hx, hy⟩ := h3
  have hy' : rx = [] := hy
  subst hy'
  obtain ⟨l4, r4, rfl, n4, _, _, h4⟩ := hx
  obtain ⟨l5, r5, rfl, n5, _, _, h5⟩ := h4
  obtain ⟨l6, r6, rfl, n6, _, _, h6⟩ := h5
  have h6' : r6 = [] := h6
  subst h6'
  rw [ha] at n0; rw [hb] at n1; rw [hc] at n2; rw [hd] at n3; rw [he] at n4; rw [hf] at n5; rw [hg] at n6
  obtain ⟨u0, rfl⟩ := List.length_eq_one_iff.1 n0
  obtain ⟨u1, rfl⟩ := List.length_eq_one_iff.1 n1
  obtain ⟨u2, rfl⟩ := List.length_eq_one_iff.1 n2
  obtain ⟨u3, rfl⟩ := List.length_eq_one_iff.1 n3
  obtain ⟨u4, rfl⟩ := List.length_eq_one_iff.1 n4
  obtain ⟨u5, rfl⟩ := List.length_eq_one_iff.1 n5
  obtain ⟨u6, rfl⟩ := List.length_eq_one_iff.1 n6
  refine ⟨u0, u1, u2, u3, u4, u5, u6, ?_⟩
  apply Array.toList_inj.1
  rw [e0]
  rfl
theorem st_lies {w : World} {a b : Sh} {cs : Array Value} (ha : a.cells = 1) (hb : b.cells = 1) (h : Lies w (.cons a (.cons b .nil)) cs.toList) : ∃ u0 u1 : Value, cs = #[u0, u1] := by
  obtain ⟨l0, r0, e0, n0, _, _, h0⟩ := h
  obtain ⟨l1, r1, rfl, n1, _, _, h1⟩ := h0
  have h1' : r1 = [] := h1
  subst h1'
  rw [ha] at n0; rw [hb] at n1
  obtain ⟨u0, rfl⟩ := List.length_eq_one_iff.1 n0
  obtain ⟨u1, rfl⟩ := List.length_eq_one_iff.1 n1
  refine ⟨u0, u1, ?_⟩
  apply Array.toList_inj.1
  rw [e0]
  rfl
end Go.Proofs.YtcafobnedfimhaaDoor
