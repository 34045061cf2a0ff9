/- Layer 4: Crash. -/
import Derived.Test.YtjedhemjojcekaaDiskWr
namespace Go.Proofs.Ytjedhemjojcekaa
open Go.RowKit
attribute [local go_sem ↓] Go.wp_at_zero Go.wp_at_succ

/-- Sectors that were never safe, one behind the other. -/
def spl (f n fill : Nat) : List UInt8 := (List.range n).flatMap fun i => spoilt 512 (f + i) fill
theorem spl_succ (f n fill : Nat) : spl f (n + 1) fill = spl f n fill ++ spoilt 512 (f + n) fill := by simp [spl, List.range_succ]
theorem spl_length (f n fill : Nat) : (spl f n fill).length = 512 * n := by
  induction n with
  | zero => rfl
  | succ n ih => rw [spl_succ, List.length_append, ih, spoilt_length]; omega
/-- The sectors that are kept, over the others. -/
def layN (now : List UInt8) (waits : List (Nat × List UInt8)) (keep : List Bool) : Nat → List UInt8
  | 0 => now
  | i + 1 => match waits[i]?, keep[i]? with
    | some x, some true => splice (layN now waits keep i) (512 * x.1) x.2
    | _, _ => layN now waits keep i
theorem layN_length (now : List UInt8) (waits : List (Nat × List UInt8)) (keep : List Bool) (h : ∀ x ∈ waits, 512 * x.1 + 512 ≤ now.length ∧ x.2.length = 512) (i : Nat) : (layN now waits keep i).length = now.length := by
  induction i with
  | zero => rfl
  | succ i ih =>
    unfold layN
    split
    · rename_i x hx hk
      obtain ⟨h1, h2⟩ := h x (List.mem_of_getElem? hx)
      rw [length_splice _ _ _ (by omega), ih]
    · exact ih
/-- The bytes without those that wait. -/
def baseNow (now safe : List UInt8) (fill : Nat) : List UInt8 := splice (splice now 0 safe) (512 * (safe.length / 512)) (spl (safe.length / 512) (now.length / 512 - safe.length / 512) fill)
theorem layN_no (now : List UInt8) (waits : List (Nat × List UInt8)) (keep : List Bool) (i : Nat) (h : keep[i]? ≠ some true) : layN now waits keep (i + 1) = layN now waits keep i := by
  conv => lhs; unfold layN
  split
  · rename_i hk
    exact absurd hk h
  · rfl
theorem layN_yes (now : List UInt8) (waits : List (Nat × List UInt8)) (keep : List Bool) (i : Nat) (x : Nat × List UInt8) (hx : waits[i]? = some x) (h : keep[i]? = some true) : layN now waits keep (i + 1) = splice (layN now waits keep i) (512 * x.1) x.2 := by
  conv => lhs; unfold layN
  rw [hx, h]
def crashNow (now safe : List UInt8) (waits : List (Nat × List UInt8)) (keep : List Bool) (fill : Nat) : List UInt8 := layN (baseNow now safe fill) waits keep waits.length
theorem baseNow_length {now safe : List UInt8} {waits : List (Nat × List UInt8)} (h : Good now safe waits) (fill : Nat) : (baseNow now safe fill).length = now.length := by
  have h1 := h.m1
  have h2 := h.m2
  have h3 := h.le
  unfold baseNow
  have e : (splice now 0 safe).length = now.length := length_splice _ _ _ (by omega)
  rw [length_splice _ _ _ (by rw [spl_length, e]; omega), e]
theorem crashNow_length {now safe : List UInt8} {waits : List (Nat × List UInt8)} (h : Good now safe waits) (keep : List Bool) (fill : Nat) : (crashNow now safe waits keep fill).length = now.length := by
  unfold crashNow
  rw [layN_length _ _ _ (by rw [baseNow_length h]; exact h.wt), baseNow_length h]
theorem Good.sync {now safe : List UInt8} {waits : List (Nat × List UInt8)} (h : Good now safe waits) : Good now now [] := ⟨h.m1, h.m1, Nat.le_refl _, h.top, fun _ hx => by cases hx⟩
theorem Good.crash {now safe : List UInt8} {waits : List (Nat × List UInt8)} (h : Good now safe waits) (keep : List Bool) (fill : Nat) : Good (crashNow now safe waits keep fill) (crashNow now safe waits keep fill) [] := by
  have e := crashNow_length h keep fill
  exact ⟨by rw [e]; exact h.m1, by rw [e]; exact h.m1, Nat.le_refl _, by rw [e]; exact h.top, fun _ hx => by cases hx⟩

def boolCells (ks : List Bool) : List Value := ks.map .bool

/-- The first part: what is safe, over all. -/
theorem over_safe {w : World} {g base : Nat} {now safe : List UInt8} {L : List Wt} {A1 A2 A3 : Option Addr} {c1 c2 c3 : Nat} (h : DkL w g base now safe L A1 c1 A2 c2 A3 c3) (hle : safe.length ≤ now.length) :
    ∃ w', (Builtin.copy_ #[25, 25] 3 #[.slice A1 now.length c1, .slice A2 safe.length c2]).run Try.prog w = .ok (goInt safe.length) w' ∧ DkL w' g base (splice now 0 safe) safe L A1 c1 A2 c2 A3 c3 ∧
      Mod (dS g (.slice A1 now.length c1) (.slice A2 safe.length c2) (.slice A3 L.length c3)) w w' ∧ (splice now 0 safe).length = now.length := by
  have hl : (splice now 0 safe).length = now.length := length_splice _ _ _ (by omega)
  obtain ⟨w', hrun, hown, hmod⟩ := run_copy_into (P := Try.prog) w h.o1 25 25 3 Try.underlying25 byteSize4 A1 A2 now.length c1 safe.length c2 0 (byteCells safe) (by rw [byteCells_length]; show _ = min _ _; omega) (fun hp => by
    rw [byteCells_length] at hp
    rcases own_A h.o1 with ⟨_, h0, _⟩ | ⟨b, rfl⟩
    · omega
    · exact ⟨b, rfl, rfl⟩) w.heap.size (byteCells safe) (Cells.of_own h.o2) (List.take_length).symm (by rw [byteCells_length]; omega) (byteCells_one _)
  rw [byteCells_length] at hrun
  obtain ⟨h1, h2, _⟩ := write_over (p := 0) (bs := safe) h (by omega) hown hmod
  exact ⟨w', hrun, h1, h2, hl⟩
theorem step_run {P : Program} {ops : Array Oper} {o : Oper} {a : Act} {w w' : World} {Q : Exit → Act → World → Prop} {rest : List Oper} (hgd : o.guard = none) (d s : Operand) (dT sT : TypeId) (ho : o.op = .call { callee := .builtin .copy, args := #[d, s], argTypes := #[dT, sT] })
    (vd vs v : Value) (hd : a.eval d = vd) (hs : a.eval s = vs) (hrun : (Builtin.copy_ #[dT, sT] o.type #[vd, vs]).run P w = .ok v w') (h : wpList P ops Q rest (a.put o.dst v) w') : wpList P ops Q (o :: rest) a w := by
  refine wpList_plain hgd fun K hK => ?_
  unfold Oper.wp execOp
  simp only [ho, resolve, invoke, builtin, Sem.run_bind, Sem.run_pure, Result.andThen_ok, List.map_toArray, List.map_cons, List.map_nil, hd, hs, hrun]
  exact hK _ _ h

theorem own2_cell {w : World} {base b n c j : Nat} {e : TypeId} {xs : List Value} {u : Value} (h : w.ownsRow base e 2 (.slice (some ⟨b, 0, none⟩) n c) n xs) (hj : xs[j]? = some u) : w.cell? ⟨b, j, none⟩ = some u := by
  have hc := h.cells (g := b) rfl j u hj
  have hadd : (⟨b, 0, none⟩ : Addr).add j = ⟨b, j, none⟩ := by unfold Addr.add; split <;> simp_all
  rwa [hadd] at hc
/-- A sector of the disk's bytes is spoilt. -/
theorem spoil_dk (g base k fill : Nat) (now safe : List UInt8) (L : List Wt) (b1 c1 : Nat) (A2 : Option Addr) (c2 : Nat) (A3 : Option Addr) (c3 : Nat) (w : World) (h : DkL w g base now safe L (some ⟨b1, 0, none⟩) c1 A2 c2 A3 c3) (hk : 512 * k + 512 ≤ now.length) (ht : now.length ≤ 2097152) (hf : fill < 256) :
    Calls Try.prog 23 #[.slice (some ⟨b1, 512 * k, none⟩) 512 512, .int .i64 (k : Int), .int .u8 (fill : Int)] w fun e w' => e = .returned (.tuple #[]) ∧ DkL w' g base (splice now (512 * k) (spoilt 512 k fill)) safe L (some ⟨b1, 0, none⟩) c1 A2 c2 A3 c3 ∧
      Mod (dS g (.slice (some ⟨b1, 0, none⟩) now.length c1) (.slice A2 safe.length c2) (.slice A3 L.length c3)) w w' := by
  obtain ⟨cur, hh, h1, h2, h3, h4, h5, h6, h7⟩ := own_row h.o1
  refine (spoil_any b1 (512 * k) 512 k fill cur _ w hh (by omega) (by omega) (by omega) hf).mono ?_
  rintro e w' ⟨rfl, hr, hm⟩
  have hm' : Mod (ownS (.slice (some ⟨b1, 0, none⟩) now.length c1)) w w' := hm.mono (fun j hj => by rw [show j = b1 from hj]; rfl)
  obtain ⟨r1, r2, _⟩ := write_over (p := 512 * k) (bs := spoilt 512 k fill) h (by rw [spoilt_length]; omega) (own_splice h.o1 (512 * k) _ (by rw [byteCells_length, spoilt_length]; omega) fun cur' hc' => by
    rw [hh] at hc'
    injection hc' with hc'
    injection hc' with hc'
    subst hc'
    exact hr) hm'
  exact ⟨rfl, r1, r2⟩

/-- A sector that waits is laid. -/
theorem lay_dk {w : World} {g base p : Nat} {now safe bs : List UInt8} {L : List Wt} {b1 c1 : Nat} {A2 A3 A : Option Addr} {c2 c3 c : Nat} (h : DkL w g base now safe L (some ⟨b1, 0, none⟩) c1 A2 c2 A3 c3) (hp : 512 * p + 512 ≤ now.length) (hb : bs.length = 512)
    (hk : Cells w w.heap.size A (byteCells bs)) :
    ∃ w', (Builtin.copy_ #[25, 25] 3 #[.slice (some ⟨b1, 512 * p, none⟩) 512 512, .slice A 512 c]).run Try.prog w = .ok (goInt 512) w' ∧ DkL w' g base (splice now (512 * p) bs) safe L (some ⟨b1, 0, none⟩) c1 A2 c2 A3 c3 ∧
      Mod (dS g (.slice (some ⟨b1, 0, none⟩) now.length c1) (.slice A2 safe.length c2) (.slice A3 L.length c3)) w w' ∧ (splice now (512 * p) bs).length = now.length := by
  have hl : (splice now (512 * p) bs).length = now.length := length_splice _ _ _ (by omega)
  obtain ⟨w', hrun, hown, hmod⟩ := run_copy_into (P := Try.prog) w h.o1 25 25 3 Try.underlying25 byteSize4 (some ⟨b1, 512 * p, none⟩) A 512 512 512 c (512 * p) (byteCells bs) (by rw [byteCells_length, hb]; rfl) (fun _ => ⟨b1, rfl, rfl⟩)
    w.heap.size (byteCells bs) hk (List.take_length).symm (by rw [byteCells_length]; omega) (byteCells_one _)
  rw [byteCells_length, hb] at hrun
  obtain ⟨h1, h2, _⟩ := write_over (p := 512 * p) (bs := bs) h (by omega) hown hmod
  exact ⟨w', hrun, h1, h2, hl⟩

set_option maxRecDepth 100000 in
set_option maxHeartbeats 1000000 in
theorem crash_any (g base : Nat) (S : Nat → Prop) (now safe : List UInt8) (waits : List (Nat × List UInt8)) (A : Option Addr) (c fill : Nat) (keep : List Bool) (w : World) (h : DkS w g base S now safe waits) (hg : Good now safe waits) (hbase : base ≤ w.heap.size)
    (hw : waits.length ≤ 1099511627776) (hkl : keep.length ≤ 9223372036854775807) (hk : 0 < keep.length → Kept w S A (boolCells keep)) (hf : fill < 256) :
    Calls Try.prog 14 #[.pointer (some ⟨g, 0, none⟩), .slice A keep.length c, .int .u8 (fill : Int)] w fun e w' => e = .returned (.tuple #[]) ∧ ∃ S', DkS w' g base S' (crashNow now safe waits keep fill) (crashNow now safe waits keep fill) [] ∧ Mod S w w' ∧ ∀ k, S' k → S k ∨ w.heap.size ≤ k := by
  have HCL := Lib.hid (crashNow_length hg keep fill)
  have HBL := Lib.hid (baseNow_length hg fill)
  have HG := Lib.hid hg
  obtain ⟨L, A1, c1, A2, c2, A3, c3, h, rfl, rfl⟩ := h
  have hm2 := hg.m2
  have hm1 := hg.m1
  have hle := hg.le
  have htop := hg.top
  rw [List.length_map] at hw
  have HKC : Hid (∀ W, Mod (dS g (.slice A1 now.length c1) (.slice A2 safe.length c2) (.slice A3 L.length c3)) w W → Cells W W.heap.size A (boolCells keep)) := fun W hm hp => ((hk (by simpa [boolCells] using hp)).step hm (fun _ hj => hj) (fun _ hj => .inl hj)).cells hp
  have HBS := Lib.hid hbase
  obtain ⟨w2, hrun, hd2, hmod2, hl2⟩ := over_safe (h.keep (T := noB) (Mod.refl noB w).drew (fun _ hj => hj.elim)) hle
  have HD2 := Lib.hid hd2
  have HM2 : Hid (Mod (dS g (.slice A1 now.length c1) (.slice A2 safe.length c2) (.slice A3 L.length c3)) w w2) := (Mod.refl _ w).drew.trans hmod2 (fun _ hj => .inl hj)
  have HL2 := Lib.hid hl2
  have HRUN := Lib.hid hrun
  obtain ⟨k0, k1, _⟩ := h.blk.cells
  have HL := Lib.hid h
  clear hd2 hmod2 hl2 hrun h hk hg hbase
  obtain ⟨N1, hN1⟩ : ∃ N1, N1 = splice now 0 safe := ⟨_, rfl⟩
  rw [← hN1] at HD2 HL2
  have HN1 := Lib.hid hN1
  clear hN1
  obtain ⟨m, hm⟩ : ∃ m, m = now.length := ⟨_, rfl⟩
  obtain ⟨l2, hl2⟩ : ∃ l2, l2 = safe.length := ⟨_, rfl⟩
  obtain ⟨S0, hS0⟩ : ∃ S0, S0 = dS g (.slice A1 now.length c1) (.slice A2 safe.length c2) (.slice A3 L.length c3) := ⟨_, rfl⟩
  rw [← hS0] at HKC HM2 ⊢
  rw [← hm] at k0 HRUN hle hm1 htop
  rw [← hl2] at k1 HRUN hle hm2
  rw [← hm] at HL2
  have HMM := Lib.hid hm
  have HLL := Lib.hid hl2
  have HS0 := Lib.hid hS0
  clear hm hl2 hS0
  obtain ⟨kl, hkl2⟩ : ∃ kl, kl = keep.length := ⟨_, rfl⟩
  rw [← hkl2] at hkl ⊢
  have HKL := Lib.hid hkl2
  clear hkl2
  go_enter Try.func14, Try.ntmps14
  go_wp2
  go_still_tail 8, (by kernel_rfl)
  repeat still_step
  change wpList _ _ _ _ _ w.drew
  refine step_run rfl (.tmp 14) (.tmp 18) 25 25 rfl _ _ _ rfl rfl HRUN.out ?_
  have hb2 := HD2.out.blk
  rw [HL2.out, ← HLL.out] at hb2
  obtain ⟨c0, c1', c2', d0, d1, d2⟩ := hb2.cells
  clear hb2 k0 k1 HRUN
  have HM1 := Lib.hid hm1
  have HM2' := Lib.hid hm2
  clear hm1 hm2
  go_wp2
  obtain ⟨f, hfd⟩ : ∃ f, f = l2 / 512 := ⟨_, rfl⟩
  obtain ⟨z, hzd⟩ : ∃ z, z = m / 512 := ⟨_, rfl⟩
  have hfi : (l2 : Int) / 512 = (f : Int) := by omega
  rw [hfi]
  have h5f : 512 * f = l2 := by have := HM2'.out; omega
  have h5z : 512 * z = m := by have := HM1.out; omega
  have hfz : f ≤ z := by omega
  have HBN : Hid (baseNow now safe fill = splice N1 (512 * f) (spl f (z - f) fill)) := by
    show _ = _
    unfold baseNow
    rw [← HMM.out, ← HLL.out, ← HN1.out, ← hfd, ← hzd]
  have HM3 := HM2
  clear hfd hzd hfi
  go_loopg [6] (z - f) (fun gk v wr => ∃ (k : Nat) (N : List UInt8), k + gk = z - f ∧ v = .int .i64 ((f + k : Nat) : Int) ∧ N = splice N1 (512 * f) (spl f k fill) ∧ N.length = m ∧ DkL wr g base N safe L A1 c1 A2 c2 A3 c3 ∧ Mod S0 w wr)
  case atStart => exact ⟨0, N1, by omega, rfl, by rw [show spl f 0 fill = [] from rfl, splice_nil], HL2.out, HD2.out, HM2.out⟩
  case round =>
    obtain ⟨k, N, hk, rfl, hN, hlN, hdk, hmod⟩ := hrel
    have hb := hdk.blk
    rw [hlN, ← HLL.out] at hb
    have HSZ := Lib.hid (size4_any g A1 m c1 _ _ wr hb (by omega))
    rw [show m / 512 = z by omega] at HSZ
    obtain ⟨e0, e1, e2, f0, f1, f2⟩ := hb.cells
    obtain ⟨p, hp⟩ : ∃ p, p = f + k := ⟨_, rfl⟩
    rw [← hp]
    have HDK := Lib.hid hdk
    have HMOD := Lib.hid hmod
    have HN := Lib.hid hN
    have HLN := Lib.hid hlN
    have HP := Lib.hid hp
    clear hb hdk hmod hN hlN c0 c1' c2' d0 d1 d2 HD2 HM2 HM3
    by_cases hpz : p < z
    · have hgk : 0 < gk := by omega
      clear hp
      rcases own_A HDK.out.o1 with ⟨_, h0, _⟩ | ⟨b1, rfl⟩
      · rw [HLN.out] at h0; omega
      have hcap : m ≤ c1 := by have := own_cap4 HDK.out.o1; rw [HLN.out] at this; exact this
      have HSEC := Lib.hid (sector_any b1 0 m c1 p wr hcap (by omega) (by omega))
      rw [Nat.zero_add] at HSEC
      have HSP := Lib.hid (spoil_dk g base p fill N safe L b1 c1 A2 c2 A3 c3 wr HDK.out (by rw [HLN.out]; omega) (by rw [HLN.out]; omega) hf)
      go_wp2_with (first
        | (go_at_call 9; refine HSZ.out.mono ?_; rintro e w' ⟨rfl, rfl⟩)
        | (go_at_call 24; refine HSEC.out.mono ?_; rintro e w' ⟨rfl, rfl⟩)
        | (go_at_call 23; refine HSP.out.mono ?_; rintro e w9 ⟨rfl, hd9, hm9⟩; have HD9 := Lib.hid hd9; have HM9 := Lib.hid hm9; clear hd9 hm9))
      go_roundg (gk - 1)
      case measure => omega
      case rel =>
        have hS : dS g (.slice (some ⟨b1, 0, none⟩) N.length c1) (.slice A2 safe.length c2) (.slice A3 L.length c3) = S0 := by rw [HS0.out, HLN.out, HMM.out]
        have h9 := HM9.out
        rw [hS] at h9
        refine ⟨k + 1, _, by omega, ?_, ?_, ?_, HD9.out, HMOD.out.then_ h9⟩
        · congr 1
          have := HP.out
          omega
        · rw [spl_succ, ← splice_over (by rw [spl_length, HL2.out]; have := HP.out; omega), ← HN.out, spl_length, ← HP.out]
          congr 1
          have := HP.out
          omega
        · rw [length_splice _ _ _ (by rw [spoilt_length, HLN.out]; omega)]
          exact HLN.out
    · obtain rfl : k = z - f := by omega
      have HNB : Hid (N = baseNow now safe fill) := by show _ = _; rw [HBN.out]; exact HN.out
      clear HN HBN HP hp hk
      go_wp2_with (go_at_call 9; refine HSZ.out.mono ?_; rintro e w' ⟨rfl, rfl⟩)
      clear HSZ e0 e1 e2 f0 f1 f2
      go_loopg [46] L.length (fun gk v wr' => ∃ (i : Nat) (N' : List UInt8), i + gk = L.length ∧ v = .int .i64 (i : Int) ∧ N' = layN (baseNow now safe fill) (L.map Wt.two) keep i ∧ N'.length = m ∧ DkL wr' g base N' safe L A1 c1 A2 c2 A3 c3 ∧ Mod S0 w wr')
      case atStart => exact ⟨0, N, by omega, rfl, HNB.out, HLN.out, HDK.out, HMOD.out⟩
      case round =>
        clear HDK HMOD HLN HNB
        obtain ⟨i, N', hi, rfl, hN', hlN', hdk, hmod⟩ := hrel
        have HN' := Lib.hid hN'
        have HLN := Lib.hid hlN'
        have HDK := Lib.hid hdk
        have HMOD := Lib.hid hmod
        clear hN' hlN' hmod
        by_cases hiL : i < L.length
        · obtain ⟨x, hx⟩ := get_lt (bs := L) (k := i) hiL
          have hwt := HG.out.wt x.two (List.mem_map.2 ⟨x, List.mem_of_getElem? hx, rfl⟩)
          rw [← HMM.out] at hwt
          have HXB : Hid (x.bytes.length = 512) := hwt.2
          have hxp : 512 * x.place + 512 ≤ m := hwt.1
          have HX := Lib.hid hx
          rcases own_A hdk.o3 with ⟨_, h0, _⟩ | ⟨b3, rfl⟩
          · omega
          have hc3 : L.length ≤ c3 := own_cap4 hdk.o3
          obtain ⟨q0, q1⟩ := wtCells_get L i x hx
          have hq0 := own2_cell hdk.o3 q0
          have hq1 := own2_cell hdk.o3 q1
          rw [Nat.mul_comm 2 i] at hq0 hq1
          have HKX := Lib.hid (hdk.kept x (List.mem_of_getElem? hx)).kept
          have hgk : 0 < gk := by omega
          clear hx hwt q0 q1 hdk
          generalize hpe : x.place = xp at *
          have HPE := Lib.hid hpe
          clear hpe
          generalize x.A = xA at *
          generalize x.c = xc at *
          have HDA := Lib.hid (HDK.out.keep (T := noB) ((Mod.refl noB wr).alloc (.cells #[.int .i64 (xp : Int), .slice xA 512 xc] 58)) (fun _ hj => hj.elim))
          have HMA := Lib.hid (HMOD.out.alloc (.cells #[.int .i64 (xp : Int), .slice xA 512 xc] 58))
          have HKA := Lib.hid (HKX.out.step ((Mod.refl noB wr).alloc (.cells #[.int .i64 (xp : Int), .slice xA 512 xc] 58)) (fun _ hj => hj.elim) (fun _ hj => .inl hj))
          by_cases hik : i < kl
          · obtain ⟨kb, hkb⟩ := get_lt (bs := keep) (k := i) (by rw [← HKL.out]; exact hik)
            obtain ⟨bk, ok, u, rfl, hbk, hu, hcell⟩ := (HKC.out _ HMA.out).at_ (k := i) (by simp only [boolCells, List.length_map]; rw [← HKL.out]; exact hik)
            have hub : u = .bool kb := by simp only [boolCells, List.getElem?_map, hkb] at hu; exact (Option.some.inj hu).symm
            subst hub
            have HKB := Lib.hid hkb
            clear hkb hu hbk
            cases kb
            · go_wp2
              go_roundg (gk - 1)
              case measure => omega
              case rel => exact ⟨i + 1, N', by omega, rfl, by rw [layN_no _ _ _ _ (by rw [HKB.out]; simp)]; exact HN'.out, HLN.out, HDA.out, HMA.out⟩
            · rcases own_A HDA.out.o1 with ⟨_, h0, _⟩ | ⟨b1, rfl⟩
              · rw [HLN.out] at h0; omega
              have hcap : m ≤ c1 := by have := own_cap4 HDA.out.o1; rw [HLN.out] at this; exact this
              have HSEC : Hid (∀ W, Calls Try.prog 24 #[.slice (some ⟨b1, 0, none⟩) m c1, .int .i64 (xp : Int)] W fun e w' => e = .returned (.slice (some ⟨b1, 512 * xp, none⟩) 512 512) ∧ W = w') := fun W => by
                have := sector_any b1 0 m c1 xp W hcap (by omega) (by omega)
                rwa [Nat.zero_add] at this
              have hrow := heap_alloc_new wr (.cells #[.int .i64 (xp : Int), .slice xA 512 xc] 58)
              go_wp2
              have hb := HDA.out.blk
              rw [HLN.out, ← HLL.out] at hb
              obtain ⟨e0, _⟩ := hb.cells
              have r0 := cell_of_row _ wr.heap.size 0 _ _ _ hrow
              have r1 := cell_of_row _ wr.heap.size 1 _ _ _ hrow
              obtain ⟨w9, hrun, hd9, hm9, hl9⟩ := lay_dk (p := xp) (bs := x.bytes) (c := xc) (HDA.out.keep (T := noB) (Mod.refl noB _).drew (fun _ hj => hj.elim)) (by rw [HLN.out]; exact hxp) HXB.out HKA.out.cells.drew
              have HRUN := Lib.hid hrun
              have HD9 := Lib.hid hd9
              have HM9 := Lib.hid hm9
              have HL9 := Lib.hid hl9
              clear hrun hd9 hm9 hl9 hrow hb hcell hq0 hq1
              generalize wr.alloc (.cells #[.int .i64 (xp : Int), .slice xA 512 xc] 58) = wA at *
              generalize wr.heap.size = g8 at *
              go_still_tail 9, (by kernel_rfl)
              repeat still_step
              still_call (still_of (HSEC.out _))
              repeat still_step
              change wpList _ _ _ _ _ wA.drew
              refine step_run rfl (.tmp 67) (.tmp 69) 25 25 rfl _ _ _ rfl rfl HRUN.out ?_
              go_wp2
              go_roundg (gk - 1)
              case measure => omega
              case rel =>
                have hS : dS g (.slice (some ⟨b1, 0, none⟩) N'.length c1) (.slice A2 safe.length c2) (.slice (some ⟨b3, 0, none⟩) L.length c3) = S0 := by rw [HS0.out, HLN.out, HMM.out]
                have h9 := HM9.out
                rw [hS] at h9
                refine ⟨i + 1, _, by omega, rfl, ?_, by rw [HL9.out]; exact HLN.out, HD9.out, HMA.out.drew.then_ h9⟩
                rw [layN_yes _ _ _ i x.two (by rw [List.getElem?_map, HX.out]; rfl) HKB.out, ← HN'.out, ← HPE.out]
                rfl
          · go_wp2
            go_roundg (gk - 1)
            case measure => omega
            case rel => exact ⟨i + 1, N', by omega, rfl, by rw [layN_no _ _ _ _ (by rw [List.getElem?_eq_none (by rw [← HKL.out]; omega)]; simp)]; exact HN'.out, HLN.out, HDA.out, HMA.out⟩
        · obtain rfl : i = L.length := by omega
          have hS : dS g (.slice A1 N'.length c1) (.slice A2 safe.length c2) (.slice A3 L.length c3) = S0 := by rw [HS0.out, HLN.out, HMM.out]
          have HNC : Hid (N' = crashNow now safe (L.map Wt.two) keep fill) := by
            show _ = _
            unfold crashNow
            rw [List.length_map]
            exact HN'.out
          have HSY := Lib.hid (sync_any g base S0 N' safe (L.map Wt.two) wr ⟨L, A1, c1, A2, c2, A3, c3, HDK.out, rfl, hS.symm⟩ (by rw [HLN.out]; exact htop) (Nat.le_trans HBS.out HMOD.out.size))
          have HSZ2 := HMOD.out.size
          clear hdk hS HN' HDK
          go_wp2_with (go_at_call 12; refine HSY.out.mono ?_; rintro e w9 ⟨rfl, S', hd, hm9, hp9⟩; have HD9 := Lib.hid hd; have HM9 := Lib.hid hm9; have HP9 := Lib.hid hp9; clear hd hm9 hp9)
          go_end0
          refine ⟨rfl, S', by rw [← HNC.out]; exact HD9.out, HMOD.out.then_ HM9.out, fun j hj => ?_⟩
          rcases HP9.out j hj with h1 | h1
          · exact .inl h1
          · exact .inr (Nat.le_trans HSZ2 h1)
end Go.Proofs.Ytjedhemjojcekaa
