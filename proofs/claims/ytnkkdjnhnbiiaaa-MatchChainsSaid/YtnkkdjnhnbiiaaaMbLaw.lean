/- Layer 10: Chain; the law MatchBests. -/
import Derived.Test.YtnkkdjnhnbiiaaaMbColl
import Derived.Test.YtnkkdjnhnbiiaaaMaLaw
import Derived.Test.YtnkkdjnhnbiiaaaChBest
namespace Go.Proofs.Ytnkkdjnhnbiiaaa
open Go.RowKit Go.Shelf

set_option maxRecDepth 100000 in
set_option maxHeartbeats 1000000 in
theorem fnil_seq (Kp : World → World → Prop) (b1 b2 : Nat) (w0 : World) (h1 : w0.heap[b1]? = some (.cells #[.pointer none] 27)) :
    SeqS Fence.wide 5 Try.prog 20 #[.pointer (some ⟨b1, 0, none⟩), .pointer (some ⟨b2, 0, none⟩)] (fun x : Nat => #[.int .i64 (x : Int)]) Kp (fun _ => False) (fun xs => xs = []) (fun pre => pre <+: []) 32769 w0 := by
  intro gy J Jx W hbl hJ hJx hY h0
  have h1W := (hbl.block b1 (Array.getElem?_eq_some_iff.1 h1).1).trans h1
  have c1 : W.cell? ⟨b1, 0, none⟩ = some (.pointer none) := cell_of_row W b1 0 _ _ _ h1W
  clear h1 h1W hY hJx
  refine callsIn_of_wp Try.func20 rfl trivial ?_ rfl
  simp only [Try.ntmps20, List.size_toArray, List.length_cons, List.length_nil, Nat.reduceAdd, Nat.reduceSub, Array.replicate_succ, Array.replicate_zero, List.push_toArray, List.append_toArray, List.nil_append, List.cons_append]
  gi_wp2_with fail
  refine wpIn_region_quiet_lit rfl (by kernel_rfl) (by kernel_rfl) ?_
  repeat (gi_big_quiet_step (fail))
  refine wpQuietIn_step (fun _ _ _ _ => trivial) (fun K hK => ?_)
  go_simp
  refine hK _ ?_
  clear hK K
  repeat (gi_big_quiet_step (fail))
  refine wpQuietIn_nil ?_
  intro _ hw'
  obtain ⟨nq, hw''⟩ := hw'
  subst hw''
  gi_wp2
  refine bodyPost_ret (results_none rfl _ _ _) rfl ?_
  exact ⟨⟨_, rfl⟩, .inl ⟨[], rfl, abidesDrewN hJ h0 _⟩⟩
set_option maxHeartbeats 1000000 in
theorem chain_any (f : Option Addr) (a : Int) (L : List Nat) (hlen : L.length ≤ 40000) (w : World)
    (hseq : ∀ (b : Nat) (Z : World), w.heap.size ≤ b → Below w.heap.size w Z → Z.heap[b]? = some (.cells #[.pointer f] 27) → Z.heap[b + 1]? = some (.cells #[.int .i64 a] 3) →
      SeqS Fence.wide 5 Try.prog 20 #[.pointer (some ⟨b, 0, none⟩), .pointer (some ⟨b + 1, 0, none⟩)] (fun x : Nat => #[.int .i64 (x : Int)]) (KeepC (fun k => b + 2 ≤ k)) (fun _ => False) (fun xs => xs = L) (fun pre => pre <+: L) 32769 Z) :
    Calls Try.prog 14 #[.pointer f, .int .i64 a] w fun e w' => ∃ A c, e = .returned (.slice A L.length c) ∧ Cells w' w'.heap.size A (L.map nl) ∧ Below w.heap.size w w' := by
  obtain ⟨W1, hW1⟩ : ∃ W1, (w.alloc (.cells #[.pointer f] 27)).alloc (.cells #[.int .i64 a] 3) = W1 := ⟨_, rfl⟩
  have hz : W1.heap.size = w.heap.size + 2 := by rw [← hW1]; simp
  have hB1 : Below w.heap.size w W1 := by rw [← hW1]; exact ((Below.refl _ w).alloc (Nat.le_refl _) _).alloc (by simp) _
  have h1 : W1.heap[w.heap.size]? = some (.cells #[.pointer f] 27) := by rw [← hW1]; exact alloc_keep (heap_alloc_new w _) _
  have h2 : W1.heap[w.heap.size + 1]? = some (.cells #[.int .i64 a] 3) := by
    rw [← hW1]
    have h := heap_alloc_new (w.alloc (.cells #[.pointer f] 27)) (.cells #[.int .i64 a] 3)
    rwa [World.size_alloc] at h
  have HC := Lib.hid (fcandidates_any f a w)
  rw [hW1] at HC
  have HA := Lib.hid (appendSeq_any 20 #[.pointer (some ⟨w.heap.size, 0, none⟩), .pointer (some ⟨w.heap.size + 1, 0, none⟩)] L hlen W1 (enters_of Try.func20 (by kernel_rfl) rfl)
    (fun Z hZ _ => by
      have h := hseq w.heap.size Z (Nat.le_refl _) (hB1.trans (hZ.mono (by omega))) ((hZ.block _ (by omega)).trans h1) ((hZ.block _ (by omega)).trans h2)
      rw [hz]
      exact h))
  have HCO : Hid (Calls Try.prog 19 #[.func (.func 20) #[] #[.pointer (some ⟨w.heap.size, 0, none⟩), .pointer (some ⟨w.heap.size + 1, 0, none⟩)]] W1 fun e w' => ∃ v, e = .returned v ∧ w'.ownsRow W1.heap.size 3 1 v L.length (L.map nl) ∧ Below W1.heap.size W1 w') := by
    show Calls _ _ _ _ _
    go_enter Try.func19, Try.ntmps19
    go_wp2_with (go_at_call 22; refine HA.out.mono ?_; rintro e w5 ⟨v, rfl, ho, hb⟩; have HO := Lib.hid ho; have HBB := Lib.hid hb; clear ho hb)
    go_ret
    exact ⟨v, rfl, HO.out, HBB.out⟩
  have HB1 := Lib.hid hB1
  have HZ := Lib.hid hz
  clear hW1 hB1 h1 h2 hseq HA hz
  go_enter Try.func14, Try.ntmps14
  go_wp2_with (first
    | (go_at_call 17; refine HC.out.mono ?_; rintro e w' ⟨rfl, rfl⟩)
    | (go_at_call 19; refine HCO.out.mono ?_; rintro e w5 ⟨v, rfl, ho, hb⟩; have HO := Lib.hid ho; have HBB := Lib.hid hb; clear ho hb))
  go_ret
  obtain ⟨A, c, rfl⟩ := own_form HO.out
  exact ⟨A, c, rfl, Cells.of_own HO.out, HB1.out.trans (HBB.out.mono (by have := HZ.out; omega))⟩
theorem chain_nil (a : Int) (w : World) : Calls Try.prog 14 #[.pointer none, .int .i64 a] w fun e w' => ∃ A c, e = .returned (.slice A 0 c) ∧ Below w.heap.size w w' :=
  (chain_any none a [] (by decide) w fun b Z _ _ h _ => fnil_seq _ b (b + 1) Z h).mono fun _ _ ⟨A, c, h1, _, h2⟩ => ⟨A, c, h1, h2⟩
theorem chain_some (g g0 : Nat) (A : Option Addr) (l c : Nat) (bs : List UInt8) (a : Int) (w : World) (hl : bs.length = l) (hm : l ≤ 4000) (hf : LF w g g0 A l c bs) :
    Calls Try.prog 14 #[.pointer (some ⟨g, 0, none⟩), .int .i64 a] w fun e w' => ∃ A c, e = .returned (.slice A (cands bs a).length c) ∧ Cells w' w'.heap.size A ((cands bs a).map nl) ∧ Below w.heap.size w w' :=
  chain_any (some ⟨g, 0, none⟩) a (cands bs a) (by have := cands_len bs a; omega) w fun b Z hb hZ h1 h2 =>
    fcand_seq _ (b + 2) b (b + 1) g g0 A l c bs a Z hl hm (fun k hk => ⟨hk, by omega, by omega⟩) (by have := (Array.getElem?_eq_some_iff.1 hf.1).1; omega) (by have := (Array.getElem?_eq_some_iff.1 hf.2).1; omega) h1 h2
      (hf.below hZ (Array.getElem?_eq_some_iff.1 hf.1).1 (Array.getElem?_eq_some_iff.1 hf.2).1)
end Go.Proofs.Ytnkkdjnhnbiiaaa
