/- Layer 4: wait. -/
import Derived.Test.YtjedhemjojcekaaDiskSy
namespace Go.Proofs.Ytjedhemjojcekaa
open Go.RowKit
attribute [local go_sem ↓] Go.wp_at_zero Go.wp_at_succ

theorem clone4_any (A : Option Addr) (l c B : Nat) (bs : List UInt8) (w : World) (hl : bs.length = l) (hm : l ≤ 1099511627776) (hB : B ≤ w.heap.size) (hb : Bytes w B A bs) :
    Calls Try.prog 27 #[.slice A l c] w fun e w' => ∃ A' c', e = .returned (.slice A' l c') ∧ OwnB w' w.heap.size 5 (.slice A' l c') l bs ∧ Below w.heap.size w w' := by
  have HL := Lib.hid hl
  have HB : Hid (Bytes w B A bs) := hb
  have hnil := Lib.run_eql_slice_nil (P := Try.prog) w 25 5 A l c 0 0 Try.underlying25
  clear hl hb
  cases A with
  | none =>
    have h0 : l = 0 := by
      rcases Nat.eq_zero_or_pos l with h0 | h0
      · exact h0
      · obtain ⟨_, _, h, _⟩ := HB.out (by rw [byteCells_length, HL.out]; exact h0)
        cases h
    subst h0
    have HN : Hid (bs = []) := List.eq_nil_of_length_eq_zero HL.out
    go_enter Try.func27, Try.ntmps27
    go_wp2
    go_ret
    exact ⟨none, 0, rfl, by rw [HN.out]; exact World.ownsRow_nil _ _ _ _, Below.refl _ _⟩
  | some ad =>
    go_enter Try.func27, Try.ntmps27
    go_wp2_with (at_builtin; refine wpList_app _ byteElem4 rfl (.tmp 5) (.tmp 6) rfl w.heap.size (.slice (some ⟨w.heap.size, 0, none⟩) 0 0) 0 [] rfl (own_empty w _ (Nat.le_refl _)) B (some ad) l c (byteCells bs) rfl (by rw [byteCells_length, HL.out, Nat.mul_one]) (HB.out.alloc hB _) (byteCells_one _) (by unfold maxLen; omega) (by omega) (by simp) ?_; intro A1 c1 w1 hA; have HA := Lib.hid hA; clear hA)
    simp only [Nat.zero_add, List.nil_append] at HA ⊢
    go_ret
    exact ⟨A1, c1, rfl, HA.out.own, HA.out.below ((Below.refl w.heap.size w).alloc (Nat.le_refl _) (.cells #[] 5)) (by simp) (by simp [Value.ownBlock])⟩

theorem wrElem4 : Elem Try.prog 26 58 (.agg #[.int .i64 0, .slice none 0 0]) 2 32 := Elem.of Try.underlying26 (by kernel_rfl) (by kernel_rfl) (by omega)

/-- A sector of some bytes. -/
def secAt (p : Nat) (l : List UInt8) : List UInt8 := (l.drop (512 * p)).take 512
theorem secAt_length {p : Nat} {l : List UInt8} (h : 512 * p + 512 ≤ l.length) : (secAt p l).length = 512 := by simp [secAt]; omega
/-- Sectors that were written, one behind the other. -/
def secs (now : List UInt8) (f n : Nat) : List (Nat × List UInt8) := (List.range n).map fun i => (f + i, secAt (f + i) now)
def wtsAt (now : List UInt8) (f b n : Nat) : List Wt := (List.range n).map fun i => ⟨f + i, secAt (f + i) now, some ⟨b, 512 * i, none⟩, 512⟩
theorem wtsAt_two (now : List UInt8) (f b n : Nat) : (wtsAt now f b n).map Wt.two = secs now f n := by simp [wtsAt, secs, Wt.two]
theorem wtsAt_succ (now : List UInt8) (f b n : Nat) : wtsAt now f b (n + 1) = wtsAt now f b n ++ [⟨f + n, secAt (f + n) now, some ⟨b, 512 * n, none⟩, 512⟩] := by simp [wtsAt, List.range_succ]
theorem wtsAt_length (now : List UInt8) (f b n : Nat) : (wtsAt now f b n).length = n := by simp [wtsAt]
theorem secs_length (now : List UInt8) (f n : Nat) : (secs now f n).length = n := by simp [secs]

theorem wait_round {w w7 : World} {g base : Nat} {now safe : List UInt8} {L : List Wt} {A1 A2 A3 A : Option Addr} {c1 c2 c3 c : Nat} (h : DkL w g base now safe L A1 c1 A2 c2 A3 c3) (x : Wt)
    (hA : App w base 58 2 (.slice A3 L.length c3) (L.length + 1) (wtCells L ++ [.int .i64 (x.place : Int), .slice x.A 512 x.c]) w7 (.slice A (L.length + 1) c))
    (hx : KeptB w (dS g (.slice A1 now.length c1) (.slice A2 safe.length c2) (.slice A3 L.length c3)) x.A (byteCells x.bytes)) :
    DkL (w7.setCell ⟨g, 2, none⟩ (.slice A (L.length + 1) c)) g base now safe (L ++ [x]) A1 c1 A2 c2 A c ∧
      Mod (dS g (.slice A1 now.length c1) (.slice A2 safe.length c2) (.slice A3 L.length c3)) w (w7.setCell ⟨g, 2, none⟩ (.slice A (L.length + 1) c)) ∧
      ∀ k, dS g (.slice A1 now.length c1) (.slice A2 safe.length c2) (.slice A (L ++ [x]).length c) k → dS g (.slice A1 now.length c1) (.slice A2 safe.length c2) (.slice A3 L.length c3) k ∨ w.heap.size ≤ k := by
  have hl : (L ++ [x]).length = L.length + 1 := by simp
  have hm1 : Mod (ownS (.slice A3 L.length c3)) w w7 := Mod.of_app hA
  have hb7 : DkB w7 g (.slice A1 now.length c1) (.slice A2 safe.length c2) (.slice A3 L.length c3) := hm1.keep h.blk h.ne3
  have ho1 : OwnB w7 base 5 (.slice A1 now.length c1) now.length now := own_keep h.o1 hm1 (own_ne2 h.o1 h.o3 (by decide))
  have ho2 : OwnB w7 base 5 (.slice A2 safe.length c2) safe.length safe := own_keep h.o2 hm1 (own_ne2 h.o2 h.o3 (by decide))
  have hne1 : ¬ ownS (.slice A1 now.length c1) g := own_ne ho1 hb7 (by decide)
  have hne2 : ¬ ownS (.slice A2 safe.length c2) g := own_ne ho2 hb7 (by decide)
  have hne3 : ¬ ownS (.slice A (L.length + 1) c) g := own_ne hA.own hb7 (by decide)
  have hset : Mod (oneB g) w7 (w7.setCell ⟨g, 2, none⟩ (.slice A (L.length + 1) c)) := (Mod.refl (oneB g) w7).set ⟨g, 2, none⟩ _ (.inl rfl)
  have hmod : Mod (dS g (.slice A1 now.length c1) (.slice A2 safe.length c2) (.slice A3 L.length c3)) w (w7.setCell ⟨g, 2, none⟩ (.slice A (L.length + 1) c)) :=
    (hm1.mono (fun k hk => dS_3 k hk)).trans hset (fun k hk => .inl (by rw [show k = g from hk]; exact dS_g ..))
  have hpl : ∀ k, dS g (.slice A1 now.length c1) (.slice A2 safe.length c2) (.slice A (L ++ [x]).length c) k → dS g (.slice A1 now.length c1) (.slice A2 safe.length c2) (.slice A3 L.length c3) k ∨ w.heap.size ≤ k := by
    rw [hl]
    rintro k (hk | hk | hk | hk)
    · exact .inl (.inl hk)
    · exact .inl (dS_1 k hk)
    · exact .inl (dS_2 k hk)
    · rcases hA.place k hk with h3 | h3
      · exact .inl (dS_3 k h3)
      · exact .inr h3
  refine ⟨⟨by rw [hl]; exact hb7.set2, own_keep ho1 hset (fun k hk he => hne1 (he ▸ hk)), own_keep ho2 hset (fun k hk he => hne2 (he ▸ hk)), ?_, h.apart, fun y hy => ?_⟩, hmod, hpl⟩
  · have := own_keep hA.own hset (fun k hk he => hne3 (he ▸ hk))
    rw [hl, wtCells_append]
    exact this
  · rcases List.mem_append.1 hy with hy | hy
    · exact (h.kept y hy).step hmod (fun k hk => hk) hpl
    · rw [List.mem_singleton.1 hy]
      exact hx.step hmod (fun k hk => hk) hpl

/-- Some sectors of a block that no call changes. -/
theorem keptB_of_own {w : World} {base b n c : Nat} {xs : List UInt8} {S : Nat → Prop} (h : OwnB w base 5 (.slice (some ⟨b, 0, none⟩) n c) n xs) (hS : ¬ S b) (o : Nat) (ys : List UInt8) (hy : ys = (xs.drop o).take ys.length) : KeptB w S (some ⟨b, o, none⟩) (byteCells ys) := by
  obtain ⟨cur, hh, h1, h2, _, _, _, _, _⟩ := own_row h
  refine ⟨b, o, cur.toArray, _, rfl, hS, hh, fun j u hj => ?_⟩
  have e1 : (byteCells xs)[o + j]? = some u := by
    rw [hy] at hj
    simp only [byteCells, List.getElem?_map, List.getElem?_take, List.getElem?_drop] at hj ⊢
    split at hj
    · exact hj
    · cases hj
  rw [← h2, List.getElem?_take] at e1
  split at e1
  · simpa using e1
  · cases e1
theorem kept_of_own {w : World} {base b n c : Nat} {xs : List UInt8} {S : Nat → Prop} (h : OwnB w base 5 (.slice (some ⟨b, 0, none⟩) n c) n xs) (hS : ¬ S b) (o : Nat) (ys : List UInt8) (hy : ys = (xs.drop o).take ys.length) : Kept w S (some ⟨b, o, none⟩) (byteCells ys) := (keptB_of_own h hS o ys hy).kept

theorem secs_cut {now : List UInt8} {f n i : Nat} (hi : i < n) : secAt (f + i) now = (((now.drop (512 * f)).take (512 * n)).drop (512 * i)).take 512 := by
  unfold secAt
  rw [List.drop_take, List.drop_drop, List.take_take, show min 512 (512 * n - 512 * i) = 512 by omega, show 512 * f + 512 * i = 512 * (f + i) by omega]

set_option maxRecDepth 100000 in
set_option maxHeartbeats 800000 in
theorem wait_any (g base : Nat) (S : Nat → Prop) (now safe : List UInt8) (waits : List (Nat × List UInt8)) (f t : Nat) (w : World) (h : DkS w g base S now safe waits) (hm : now.length ≤ 2097152) (hbase : base ≤ w.heap.size)
    (hft : f ≤ t) (ht : 512 * t + 512 ≤ now.length) (hw : waits.length ≤ 1099511627776) :
    Calls Try.prog 19 #[.pointer (some ⟨g, 0, none⟩), .int .i64 (f : Int), .int .i64 (t : Int)] w fun e w' => e = .returned (.tuple #[]) ∧ ∃ S', DkS w' g base S' now safe (waits ++ secs now f (t + 1 - f)) ∧ Mod S w w' ∧ ∀ k, S' k → S k ∨ w.heap.size ≤ k := by
  obtain ⟨L, A1, c1, A2, c2, A3, c3, h, rfl, rfl⟩ := h
  rcases own_A h.o1 with ⟨_, h0, _⟩ | ⟨b1, rfl⟩
  · omega
  have hcap : now.length ≤ c1 := own_cap4 h.o1
  have hcut := own_cut h.o1 (512 * f) (512 * f) rfl
  have HCL := Lib.hid (clone4_any (some ⟨b1, 512 * f, none⟩) (512 * (t + 1 - f)) (c1 - 512 * f) w.heap.size ((now.drop (512 * f)).take (512 * (t + 1 - f))) w (by rw [List.length_take, List.length_drop]; omega) (by omega) (Nat.le_refl _) (fun hp => by
    obtain ⟨b, o, e, hb, hc⟩ := hcut (by rw [byteCells_length, List.length_drop]; omega)
    refine ⟨b, o, e, hb, fun j u hj => hc j u ?_⟩
    simp only [byteCells, List.getElem?_map, List.getElem?_take] at hj ⊢
    split at hj
    · exact hj
    · cases hj))
  obtain ⟨k0, _⟩ := h.blk.cells
  have HL := Lib.hid h
  rw [List.length_map] at hw
  clear h hcut
  go_enter Try.func19, Try.ntmps19
  go_wp2_with fail
  rw [show f * 512 = 512 * f by omega, show (t + 1) * 512 - 512 * f = 512 * (t + 1 - f) by omega]
  refine HCL.out.mono ?_
  rintro e w1 ⟨A', c', rfl, hown, hbel⟩
  obtain ⟨n, hn⟩ : ∃ n, n = t + 1 - f := ⟨_, rfl⟩
  rw [← hn] at hown ⊢
  have hn0 : 1 ≤ n := by omega
  have hfn : f + n = t + 1 := by omega
  rcases own_A hown with ⟨_, h0, _⟩ | ⟨b', rfl⟩
  · omega
  have hcc : 512 * n ≤ c' := own_cap4 hown
  have hb' : w.heap.size ≤ b' := (hown.lt b' rfl).1
  have HOWN := Lib.hid hown
  have HL1 := Lib.hid (HL.out.keep (T := noB) (Mod.of_below hbel) (fun k hk => hk.elim))
  have HBEL := Lib.hid hbel
  have HFR : Hid (¬ dS g (.slice (some ⟨b1, 0, none⟩) now.length c1) (.slice A2 safe.length c2) (.slice A3 L.length c3) b') := fun hk => by have := HL.out.lt b' hk; omega
  have HTN := Lib.hid hn
  clear hown hbel HCL k0 hn
  go_wp2
  go_loopg [7] n (fun gk v wr => ∃ (k : Nat) (A : Option Addr) (c : Nat), k + gk = n ∧ v = .int .i64 ((f + k : Nat) : Int) ∧ DkL wr g base now safe (L ++ wtsAt now f b' k) (some ⟨b1, 0, none⟩) c1 A2 c2 A c ∧ OwnB wr w.heap.size 5 (.slice (some ⟨b', 0, none⟩) (512 * n) c') (512 * n) ((now.drop (512 * f)).take (512 * n)) ∧
    ¬ dS g (.slice (some ⟨b1, 0, none⟩) now.length c1) (.slice A2 safe.length c2) (.slice A (L ++ wtsAt now f b' k).length c) b' ∧
    Mod (dS g (.slice (some ⟨b1, 0, none⟩) now.length c1) (.slice A2 safe.length c2) (.slice A3 L.length c3)) w wr ∧
    ∀ j, dS g (.slice (some ⟨b1, 0, none⟩) now.length c1) (.slice A2 safe.length c2) (.slice A (L ++ wtsAt now f b' k).length c) j → dS g (.slice (some ⟨b1, 0, none⟩) now.length c1) (.slice A2 safe.length c2) (.slice A3 L.length c3) j ∨ w.heap.size ≤ j)
  case atStart =>
    have e : wtsAt now f b' 0 = [] := rfl
    refine ⟨0, A3, c3, by omega, by simp, ?_, HOWN.out, ?_, Mod.fresh (Mod.of_below HBEL.out) (fun k hk => hk.elim), ?_⟩
    · rw [e, List.append_nil]; exact HL1.out
    · rw [e, List.append_nil]; exact HFR.out
    · rw [e, List.append_nil]; exact fun j hj => .inl hj
  case round =>
    obtain ⟨k, A, c, hk, rfl, hdk, hown, hfr, hmod, hpl⟩ := hrel
    by_cases hkn : k < n
    · have HSEC : Hid (∀ W, Calls Try.prog 24 #[.slice (some ⟨b', 0, none⟩) (512 * n) c', .int .i64 (k : Int)] W fun e w' => e = .returned (.slice (some ⟨b', 512 * k, none⟩) 512 512) ∧ W = w') := fun W => by
        have := sector_any b' 0 (512 * n) c' k W hcc (by omega) (by omega)
        rwa [Nat.zero_add] at this
      have HK := Lib.hid (keptB_of_own hown hfr (512 * k) (secAt (f + k) now) (by rw [secAt_length (by omega), secs_cut hkn]))
      have hlen : (L ++ wtsAt now f b' k).length ≤ 1099511627776 + 4096 := by rw [List.length_append, wtsAt_length]; omega
      have HDK := Lib.hid hdk
      have HOW := Lib.hid hown
      have HMD := Lib.hid hmod
      have HPL := Lib.hid hpl
      have HFR2 := Lib.hid hfr
      have HSU := Lib.hid (wtsAt_succ now f b' k)
      have hbw : base ≤ wr.heap.size := Nat.le_trans hbase hmod.size
      obtain ⟨c0, c1', c2', d0, d1, d2⟩ := hdk.blk.cells
      generalize hLk : L ++ wtsAt now f b' k = Lk at *
      have HLK := Lib.hid hLk
      have ca2 : ∀ o, (wr.alloc o).cell? ⟨g, 2, none⟩ = some (.slice A Lk.length c) := fun o => (World.cell?_alloc_lt wr o _ hdk.blk.lt).trans c2'
      clear hdk hown hmod hpl hfr hLk c0 c1' d0 d1 HL1 HOWN HBEL HFR
      obtain ⟨p, hp⟩ : ∃ p, p = f + k := ⟨_, rfl⟩
      rw [← hp] at HK HSU ⊢
      have hle : decide ((p : Int) ≤ (t : Int)) = true := by simp; omega
      have hpf1 : (p : Int) - (f : Int) = (k : Int) := by omega
      have hpf2 : IntKind.i64.wrap ((p : Int) - (f : Int)) = (k : Int) := by rw [hpf1]; exact IntWalk.i64_in _ (by omega)
      have hkw : IntKind.i64.wrap (k : Int) = (k : Int) := IntWalk.i64_in _ (by omega)
      have hpt : p ≤ 4096 := by omega
      have HP := Lib.hid hp
      clear hp
      go_wp2
      go_region_law (first | (go_simp; go_at_call 24; refine (HSEC.out _).mono ?_; rintro e w' ⟨rfl, rfl⟩) | (refine step_app1 wr wrElem4 (by rfl) (.tmp 29) (.tmp 37) (by rfl) base (.slice A Lk.length c) Lk.length (wtCells Lk) (by rfl) HDK.out.o3 _ (by rfl) (by rfl) (by simp [Value.oneCell']) (by unfold maxLen; omega) (by omega) hbw ?_; intro A4 c4 w7 hA; have HA := Lib.hid hA; clear hA; have HB7 : Hid (DkB w7 g _ _ _) := (Mod.of_app HA.out).keep HDK.out.blk HDK.out.ne3; obtain ⟨e0, e1, e2, f0, f1, f2⟩ := HB7.out.cells))
      all_goals
        have HR := Lib.hid (wait_round HDK.out ⟨p, secAt p now, some ⟨b', 512 * k, none⟩, 512⟩ HA.out HK.out)
        clear HB7 e0 e1 e2 f0 f1 f2
        go_wp2
        go_roundg (gk - 1)
        case measure => omega
        case rel =>
          obtain ⟨r1, r2, r3⟩ := HR.out
          have hE : L ++ wtsAt now f b' (k + 1) = Lk ++ [⟨p, secAt p now, some ⟨b', 512 * k, none⟩, 512⟩] := by rw [HSU.out, ← List.append_assoc, HLK.out]
          refine ⟨k + 1, A4, c4, by omega, ?_, ?_, ?_, ?_, ?_, ?_⟩
          · congr 1
            have := HP.out
            omega
          · rw [hE]; exact r1
          · exact own_keep HOW.out r2 (fun j hj => by
              have : j = b' := by simpa [ownS, Value.ownBlock] using hj.symm
              rw [this]; exact HFR2.out)
          · rw [hE]
            intro hb
            rcases r3 b' hb with h1 | h1
            · exact HFR2.out h1
            · have := own_at HOW.out
              omega
          · exact HMD.out.trans r2 HPL.out
          · rw [hE]
            intro j hj
            rcases r3 j hj with h1 | h1
            · exact HPL.out j h1
            · have := HMD.out.size
              exact .inr (by omega)
    · obtain rfl : k = n := by omega
      have HDK := Lib.hid hdk
      have HMD := Lib.hid hmod
      have HPL := Lib.hid hpl
      have hle : decide (((f + k : Nat) : Int) ≤ (t : Int)) = false := by simp; omega
      clear hdk hown hmod hpl hfr HL1 HOWN HBEL HFR
      generalize f + k = p at *
      go_wp2
      go_end0
      refine ⟨rfl, _, ⟨L ++ wtsAt now f b' k, _, c1, A2, c2, A, c, HDK.out, ?_, rfl⟩, HMD.out, HPL.out⟩
      rw [List.map_append, wtsAt_two, HTN.out]
end Go.Proofs.Ytjedhemjojcekaa
