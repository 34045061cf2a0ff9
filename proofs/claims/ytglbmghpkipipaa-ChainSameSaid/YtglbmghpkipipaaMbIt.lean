/- Layer 10: the candidates, as a finder tells them. -/
import Derived.Test.YtglbmghpkipipaaMbNew
import Derived.Test.YtglbmghpkipipaaMaBest
namespace Go.Proofs.Ytglbmghpkipipaa
open Go.RowKit Go.Shelf
attribute [local go_sem] Oper.semAt_some

set_option maxHeartbeats 400000 in
theorem fcandidates_any (f : Option Addr) (a : Int) (w : World) :
    Calls Try.prog 42 #[.pointer f, .int .i64 a] w fun e w' => e = .returned (.func (.func 43) #[] #[.pointer (some ⟨w.heap.size, 0, none⟩), .pointer (some ⟨w.heap.size + 1, 0, none⟩)]) ∧
      (w.alloc (.cells #[.pointer f] 70)).alloc (.cells #[.int .i64 a] 3) = w' := by
  go_enter Try.func42, Try.ntmps42
  go_wp2
  go_ret
  exact ⟨rfl, rfl⟩
theorem begB_at {l : Nat} {a : Int} (h : 0 ≤ a ∧ a + 3 ≤ (l : Int)) : begB l a = true := by
  unfold begB
  rw [decide_eq_true (by omega), decide_eq_true (by omega)]
  rfl
set_option maxRecDepth 100000 in
set_option maxHeartbeats 2000000 in
theorem fcand_seq (S : Nat → Prop) (B b1 b2 g g0 : Nat) (A : Option Addr) (l c : Nat) (bs : List UInt8) (a : Int) (w0 : World) (hl : bs.length = l) (hm : l ≤ 4000)
    (hS : ∀ k, S k → B ≤ k ∧ k ≠ b1 ∧ k ≠ b2) (hgB : g < B) (hg0B : g0 < B)
    (h1 : w0.heap[b1]? = some (.cells #[.pointer (some ⟨g, 0, none⟩)] 70)) (h2 : w0.heap[b2]? = some (.cells #[.int .i64 a] 3)) (hf : LF w0 g g0 A l c bs) :
    SeqS Fence.wide 5 Try.prog 43 #[.pointer (some ⟨b1, 0, none⟩), .pointer (some ⟨b2, 0, none⟩)] (fun x : Nat => #[.int .i64 (x : Int)]) (KeepC S) (fun _ => False) (fun xs => xs = cands bs a) (fun pre => pre <+: cands bs a) 32769 w0 := by
  intro gy J Jx W hbl hJ hJx hY h0
  have HL := Lib.hid hl
  have h1W := (hbl.block b1 (Array.getElem?_eq_some_iff.1 h1).1).trans h1
  have h2W := (hbl.block b2 (Array.getElem?_eq_some_iff.1 h2).1).trans h2
  have hfW : LF W g g0 A l c bs := hf.below hbl (Array.getElem?_eq_some_iff.1 hf.1).1 (Array.getElem?_eq_some_iff.1 hf.2).1
  have c1 : W.cell? ⟨b1, 0, none⟩ = some (.pointer (some ⟨g, 0, none⟩)) := cell_of_row W b1 0 _ _ _ h1W
  have c2 : W.cell? ⟨b2, 0, none⟩ = some (.int .i64 a) := cell_of_row W b2 0 _ _ _ h2W
  have c3 : W.cell? ⟨g, 0, none⟩ = some (.slice A l c) := cell_of_row W g 0 _ _ _ hfW.1
  have c4 : W.cell? ⟨g, 1, none⟩ = some (.slice (some ⟨g0, 0, none⟩) l l) := cell_of_row W g 1 _ _ _ hfW.1
  have HBN := Lib.hid (fun k : Nat => begins_any A l c a (W.drewN k) (by omega))
  have HUB := Lib.hid hfW.2
  have HS := Lib.hid hS
  have HY := Lib.hid hY
  clear h1 h2 hf hl hS hY h1W h2W hfW
  cases hbg : begB l a with
  | false =>
    have HBG := Lib.hid (begB_no HL.out hbg)
    rw [hbg] at HBN
    refine callsIn_of_wp Try.func43 rfl trivial ?_ rfl
    simp only [Try.ntmps43, List.size_toArray, List.length_cons, List.length_nil, Nat.reduceAdd, Nat.reduceSub, Array.replicate_succ, Array.replicate_zero, List.push_toArray, List.append_toArray, List.nil_append, List.cons_append]
    gi_wp2_with fail
    refine wpIn_region_quiet_lit rfl (by kernel_rfl) (by kernel_rfl) ?_
    repeat (gi_big_quiet_step (fail))
    refine wpQuietIn_step (fun _ _ _ _ => trivial) (fun K hK => ?_)
    go_simp
    apply Exists.intro
    refine ⟨fun k => ?_, hK _ ?_⟩
    · exact callsIn_wide.2 (quiet_left' (HBN.out k))
    clear hK K
    repeat (gi_big_quiet_step (fail))
    refine wpQuietIn_nil ?_
    intro _ hw'
    obtain ⟨nq, hw''⟩ := hw'
    subst hw''
    gi_wp2
    refine bodyPost_ret (results_none rfl _ _ _) rfl ?_
    exact ⟨⟨_, rfl⟩, .inl ⟨[], HBG.out.symm, abidesDrewN hJ h0 _⟩⟩
  | true =>
    obtain ⟨q0, q1⟩ := begB_yes hbg
    obtain ⟨n, rfl⟩ := Int.eq_ofNat_of_zero_le q0
    have hn3 : n + 3 ≤ l := by omega
    have HCA : Hid (cands bs (n : Int) = candN bs n (min n 32768)) := cands_at (by rw [HL.out]; exact hn3)
    rw [hbg] at HBN
    have HN1 : Hid (¬ S b1) := fun h => (HS.out b1 h).2.1 rfl
    have HN2 : Hid (¬ S b2) := fun h => (HS.out b2 h).2.2 rfl
    have HN3 : Hid (¬ S g) := fun h => by have := (HS.out g h).1; omega
    have HN4 : Hid (¬ S g0) := fun h => by have := (HS.out g0 h).1; omega
    clear hbg q0 q1
    refine callsIn_of_wp Try.func43 rfl trivial ?_ rfl
    simp only [Try.ntmps43, List.size_toArray, List.length_cons, List.length_nil, Nat.reduceAdd, Nat.reduceSub, Array.replicate_succ, Array.replicate_zero, List.push_toArray, List.append_toArray, List.nil_append, List.cons_append]
    gi_wp2_with fail
    refine wpIn_region_quiet_lit rfl (by kernel_rfl) (by kernel_rfl) ?_
    repeat (gi_big_quiet_step (fail))
    refine wpQuietIn_step (fun _ _ _ _ => trivial) (fun K hK => ?_)
    go_simp
    apply Exists.intro
    refine ⟨fun k => ?_, hK _ ?_⟩
    · exact callsIn_wide.2 (quiet_left' (HBN.out k))
    clear hK K
    repeat (gi_big_quiet_step (fail))
    refine wpQuietIn_nil ?_
    intro _ hw'
    obtain ⟨nq, hw''⟩ := hw'
    subst hw''
    gi_wp2
    gi_loopw [4] (fun i wr => ∃ e : Nat, i = .int .i64 (e : Int) ∧ (e ≤ n ∧ e ≤ 32768 ∧ bg bs (n - e) = bg bs n) ∧ wr.cell? ⟨b1, 0, none⟩ = some (.pointer (some ⟨g, 0, none⟩)) ∧ wr.cell? ⟨b2, 0, none⟩ = some (.int .i64 n) ∧
      wr.cell? ⟨g, 1, none⟩ = some (.slice (some ⟨g0, 0, none⟩) l l) ∧ (∀ (j d : Nat), (dL bs l (l - 2))[j]? = some d → wr.cell? ⟨g0, j, none⟩ = some (.int .u16 (d : Int))) ∧ J (candN bs n e) wr) (fun i _ => n + 1 - (intOf i).toNat)
    case atStart => exact ⟨0, rfl, ⟨Nat.zero_le _, by omega, rfl⟩, c1, c2, c4, fun j d hj => ub_cell HUB.out hj, abidesDrewN hJ h0 _⟩
    case round =>
      obtain ⟨e, rfl, ⟨he1, he2, he3⟩, e1, e2, e4, eu, hJs⟩ := hrel
      clear c1 c2 c3 c4
      obtain ⟨q, hq⟩ : ∃ q, n - e = q := ⟨_, rfl⟩
      obtain ⟨db, hdb⟩ : ∃ db, dB bs q = db := ⟨_, rfl⟩
      have hstep := dB_step he1 he3
      rw [hq, hdb] at hstep
      have HST := Lib.hid hstep
      have d0 : wr.cell? ⟨g0, q, none⟩ = some (.int .u16 (db : Int)) := eu q db (by rw [dL_get bs l (l - 2) (by omega), if_pos (by omega), hdb])
      have hdle : db ≤ 32768 := by rw [← hdb]; exact dB_le bs q
      have hsub : (n : Int) - (e : Int) = (q : Int) := by omega
      have hwq : IntKind.i64.wrap (q : Int) = (q : Int) := IntWalk.i64_in _ (by omega)
      have hql : q < l := by omega
      have HEU := Lib.hid eu
      clear hstep hdb eu he3
      by_cases hz : db = 0
      · have HCE : Hid (cands bs (n : Int) = candN bs n e) := by show _ = _; rw [HCA.out, HST.out.1 hz, show min e (min n 32768) = e by omega]
        subst hz
        gi_wp2_with fail
        gi_quiet (fail)
        gi_wp2
        go_end0
        exact ⟨⟨_, rfl⟩, .inl ⟨candN bs n e, HCE.out.symm, abidesDrewN hJ hJs _⟩⟩
      · have t0 : decide ((0 : Int) < (db : Int)) = true := decide_eq_true (by omega)
        have t0' : decide (0 < db) = true := decide_eq_true (by omega)
        obtain ⟨k1, k2, k3, _⟩ := HST.out.2 (by omega)
        obtain ⟨e', he'⟩ : ∃ e', e + db = e' := ⟨_, rfl⟩
        rw [he'] at k1 k2 k3
        have hadd : (e : Int) + (db : Int) = (e' : Int) := by omega
        have hwe : IntKind.i64.wrap (e' : Int) = (e' : Int) := IntWalk.i64_in _ (by omega)
        have HK2 := Lib.hid k2
        have HK3 := Lib.hid k3
        clear k2 k3
        gi_wp2_with fail
        gi_quiet (fail)
        obtain ⟨n1, rfl⟩ : ∃ n1, n1 = nq := ⟨_, rfl⟩
        gi_wp2_with fail
        gi_quiet (fail)
        have hJ2 := abidesDrewN hJ hJs (n1 + nq)
        by_cases hbig : 32768 < e'
        · exact absurd hbig (by omega)
        · have t1 : decide ((32768 : Int) < (e' : Int)) = false := decide_eq_false (by omega)
          have HPX : Hid (candN bs n e' <+: cands bs (n : Int)) := by
            show _ <+: _
            rw [HCA.out]
            exact candN_pre bs n (by omega)
          obtain ⟨fn, tmps, assign, body, hy, hR⟩ := HY.out (candN bs n e) e' (wr.drewN (n1 + nq)) hJ2 (by have := candN_len bs n e; omega)
          have HR := Lib.hid hR
          clear hR
          rw [← HK3.out] at HR
          gi_wp2
          refine HR.out.mono ?_
          rintro ee W3 (⟨rfl, hJ3, hk3⟩ | ⟨rfl, hJx3⟩)
          · have e1' := hk3.cell (show (wr.drewN (n1 + nq)).cell? ⟨b1, 0, none⟩ = _ from e1) HN1.out
            have e2' := hk3.cell (show (wr.drewN (n1 + nq)).cell? ⟨b2, 0, none⟩ = _ from e2) HN2.out
            have e4' := hk3.cell (show (wr.drewN (n1 + nq)).cell? ⟨g, 1, none⟩ = _ from e4) HN3.out
            have eu' : ∀ (j d : Nat), (dL bs l (l - 2))[j]? = some d → W3.cell? ⟨g0, j, none⟩ = some (.int .u16 (d : Int)) := fun j d hj => hk3.cell (show (wr.drewN (n1 + nq)).cell? ⟨g0, j, none⟩ = _ from HEU.out j d hj) HN4.out
            gi_wp2
            refine ⟨⟨e', rfl, ⟨k1, by omega, HK2.out⟩, e1', e2', e4', eu', hJ3⟩, ?_⟩
            simp [intOf]
            omega
          · gi_wp2
            refine bodyPost_ret (results_none rfl _ _ _) rfl ?_
            exact ⟨⟨_, rfl⟩, .inr ⟨candN bs n e', HPX.out, hJx3⟩⟩
end Go.Proofs.Ytglbmghpkipipaa
