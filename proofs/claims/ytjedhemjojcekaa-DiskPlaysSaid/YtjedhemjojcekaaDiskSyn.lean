/- Layer 4: what was synced is there behind a crash : any call of both; a write where all is safe. -/
import Derived.Test.YtjedhemjojcekaaDiskNear
namespace Go.Proofs.Ytjedhemjojcekaa
open Go.RowKit
attribute [local go_sem ↓] Go.wp_at_zero Go.wp_at_succ

theorem RfS.new (w : World) (base : Nat) : RfS (w.alloc (.cells #[.slice none 0 0, .slice none 0 0, .slice none 0 0, .slice none 0 0] 33)) w.heap.size base (oneB w.heap.size) [] [] [] := by
  refine ⟨none, 0, none, 0, none, 0, none, 0, ⟨heap_alloc_new w _, ⟨rfl, .inl ⟨rfl, rfl⟩⟩, ⟨rfl, .inl ⟨rfl, rfl⟩⟩, ⟨rfl, .inl ⟨rfl, rfl⟩⟩, ⟨rfl, .inl ⟨rfl, rfl⟩⟩, fun k hk => by cases hk⟩, ?_⟩
  funext k
  refine propext ⟨fun h => .inl h, ?_⟩
  rintro (h | h | h | h | h)
  · exact h
  all_goals cases h
theorem both_new (w : World) : Both ((w.alloc (.cells #[.slice none 0 0, .slice none 0 0, .slice none 0 0] 28)).alloc (.cells #[.slice none 0 0, .slice none 0 0, .slice none 0 0, .slice none 0 0] 33)) w.heap.size (w.heap.size + 1) w.heap.size (oneB w.heap.size) (oneB (w.heap.size + 1)) [] [] [] := by
  have h := RfS.new (w.alloc (.cells #[.slice none 0 0, .slice none 0 0, .slice none 0 0] 28)) w.heap.size
  rw [World.size_alloc] at h
  exact ⟨(DkS.new w w.heap.size).keep0 ((Mod.refl noB _).alloc _), h, Good.new, fun k hk => by rw [show k = w.heap.size from hk]; exact Nat.le_refl _, fun k hk => by rw [show k = w.heap.size + 1 from hk]; omega⟩

/-- Any call of both. -/
theorem does_all (gd gm base : Nat) (S1 S2 : Nat → Prop) (now safe : List UInt8) (waits : List (Nat × List UInt8)) (o : DOp) (w0 w : World) (hg : DOp.Good w0 o) (h3 : o.bl ≤ 3000) (hb : Both w gd gm base S1 S2 now safe waits) (hbase : base ≤ w.heap.size) (hw0 : w0.heap.size ≤ base) (hbel : Below w0.heap.size w0 w) (hw : waits.length ≤ 1000000) :
    Calls Try.prog 6 #[.pointer (some ⟨gd, 0, none⟩), .pointer (some ⟨gm, 0, none⟩), .agg #[.int .i64 o.kind, .int .i64 o.at_, .slice o.B o.bl o.bc, .slice o.K o.kl o.kc, .int .u8 (o.fill : Int)]] w fun e w' => e = .returned (.bool true) ∧
      ∃ S1' S2' now' safe' waits', Both w' gd gm base S1' S2' now' safe' waits' ∧ Below base w w' ∧ waits'.length ≤ waits.length + 10 := by
  obtain ⟨kind, p, B, bl, bc, bs, K, kl, kc, ks, fill⟩ := o
  obtain ⟨a0, a1, hbl, _, hbc, hbb, hkl, hkm, hkb, hf⟩ := hg
  have hB : Cells w base B (byteCells bs) := Cells.more (hbb.below hbel (Nat.le_refl _)) hw0
  have hK : Cells w base K (boolCells ks) := Cells.more (hkb.below hbel (Nat.le_refl _)) hw0
  by_cases k0 : kind = 0
  · subst k0
    exact does_write gd gm base S1 S2 now safe waits B K bl bc kl kc fill bs p w hb hbase hw hbl h3 hbc a0 a1 hB
  by_cases k1 : kind = 1
  · subst k1
    exact does_sync gd gm base S1 S2 now safe waits B K bl bc kl kc fill p w hb hbase hw
  · exact does_crash gd gm base S1 S2 now safe waits B K bl bc kl kc fill ks p kind w hb hbase hw k0 k1 hkl hkm hf hK

/-- A crash that keeps all of one write is none. -/
theorem crash_all (old bs : List UInt8) (p fill n : Nat) (hm : old.length % 512 = 0) (h0 : 0 < bs.length) (h : p + bs.length ≤ old.length) (hn : n = (writeWt old p bs).length) : crashNow (writeNow old p bs) old (writeWt old p bs) (List.replicate n true) fill = writeNow old p bs := by
  have hl := write_within old bs p hm h0 h
  have hwl : (writeWt old p bs).length = (p + bs.length - 1) / 512 + 1 - p / 512 := by unfold writeWt; rw [secs_length]
  have hcl : (crashNow (writeNow old p bs) old (writeWt old p bs) (List.replicate n true) fill).length = old.length := by
    unfold crashNow
    rw [base_whole _ _ _ hl.symm, layN_length]
    intro x hx
    simp only [writeWt, secs, List.mem_map, List.mem_range] at hx
    obtain ⟨k, hk, rfl⟩ := hx
    exact ⟨by show 512 * (p / 512 + k) + 512 ≤ _; omega, secAt_length (by omega)⟩
  apply List.ext_getElem?
  intro j
  have hs := crash_sec old bs p fill (List.replicate n true) hm h0 h (j / 512)
  have e : secAt (j / 512) (crashNow (writeNow old p bs) old (writeWt old p bs) (List.replicate n true) fill) = secAt (j / 512) (writeNow old p bs) := by
    rw [hs]
    split
    · rfl
    · rename_i hc
      have hnw : writeNow old p bs = splice old p bs := by
        unfold writeNow
        rw [show 512 * needV old.length p bs.length - old.length = 0 by rw [← writeNow_length old p bs hm h0, hl]; omega]
        simp
      rw [hnw]
      by_cases c1 : j / 512 < p / 512
      · exact (sec_before old bs p _ h (by omega)).symm
      · by_cases c2 : (p + bs.length - 1) / 512 < j / 512
        · exact (sec_behind old bs p _ h (by omega)).symm
        · exfalso
          apply hc
          refine ⟨by omega, by omega, ?_⟩
          rw [List.getElem?_replicate, if_pos (by omega)]
  have g := congrArg (fun l => l[j % 512]?) e
  simp only [secAt_get] at g
  rw [if_pos (by omega), if_pos (by omega), show 512 * (j / 512) + j % 512 = j by omega] at g
  exact g
/-- A write onto a disk where all is safe. -/
theorem write_one (base : Nat) (now : List UInt8) (B : Option Addr) (bl bc : Nat) (bs : List UInt8) (p : Int) (hbl : bs.length = bl) (hb3 : bl ≤ 3000) (p0 : -9223372036854775808 ≤ p) (p1 : p ≤ 9223372036854775807) (hg : Good now now []) :
    ∃ (r : Int) (now' : List UInt8) (waits' : List (Nat × List UInt8)), Good now' now waits' ∧ waits'.length ≤ 10 ∧ (now'.length = now.length → ∀ fill, crashNow now' now waits' (List.replicate waits'.length true) fill = now') ∧
      (∀ (W : World) (gd : Nat) (S : Nat → Prop), DkS W gd base S now now [] → base ≤ W.heap.size → (0 < bl → Kept W S B (byteCells bs)) →
        Calls Try.prog 8 #[.pointer (some ⟨gd, 0, none⟩), .int .i64 p, .slice B bl bc] W fun e w' => e = .returned (.int .i64 r) ∧ ∃ S', DkS w' gd base S' now' now waits' ∧ Mod S W w' ∧ ∀ k, S' k → S k ∨ W.heap.size ≤ k) := by
  cases hok : okW p (bl : Int) with
  | false =>
    refine ⟨1, now, [], hg, by simp, fun _ fill => crash_none _ _ _, fun W gd S h _ _ => (write_bad gd B bl bc p W p0 p1 (by omega) hok).mono ?_⟩
    rintro e w' ⟨rfl, rfl⟩
    exact ⟨rfl, S, h, Mod.refl _ _, fun k hk => .inl hk⟩
  | true =>
    have hp : 0 ≤ p := by simp [okW] at hok; omega
    obtain ⟨q, rfl⟩ := Int.eq_ofNat_of_zero_le hp
    have hpn : q + bl ≤ 2097152 := by simp [okW] at hok; omega
    by_cases h0 : bl = 0
    · subst h0
      refine ⟨0, now, [], hg, by simp, fun _ fill => crash_none _ _ _, fun W gd S h _ _ => (write_none gd base S now now [] B bc q W h hg.top hok).mono ?_⟩
      rintro e w' ⟨rfl, rfl⟩
      exact ⟨rfl, S, h, Mod.refl _ _, fun k hk => .inl hk⟩
    · have hw := hg.write (p := q) (bs := bs) (by rw [hbl]; exact hpn) (by omega)
      rw [List.nil_append] at hw
      refine ⟨0, writeNow now q bs, writeWt now q bs, hw, ?_, ?_, fun W gd S h hb hk => ?_⟩
      · unfold writeWt
        rw [secs_length, hbl]
        omega
      · intro hlen fill
        have h1 := writeNow_length now q bs hg.m1 (by omega)
        have h2 := need_ge now.length q bs.length hg.m1 (by omega)
        exact crash_all now bs q fill _ hg.m1 (by omega) (by omega) rfl
      · have := write_any gd base S now now [] B bl bc q bs W h hg hb (by simp) hbl (by omega) (hk (by omega)) hok
        rwa [List.nil_append] at this
theorem boolInfo4 : (Try.prog.info? 4).map (fun i => (i.zero, i.size, i.bytes)) = some (some (.bool false), 1, 1) := by kernel_rfl
theorem make_bools4 (n : Nat) (hn : n ≤ 281474976710656) (W : World) :
    (Instr.makeSlice 30 (.int .i64 (n : Int)) (.int .i64 (n : Int))).run Try.prog W = .ok (.slice (some ⟨W.heap.size, 0, none⟩) n n) (W.alloc (.cells (madeCells #[.bool false] n) 4)) := by
  obtain ⟨i0, hi, hz0, hz1, hz2⟩ := info_parts boolInfo4
  have h := run_make (P := Try.prog) W 30 4 i0 (.bool false) Try.underlying30 hi hz0 .i64 .i64 n n (by omega) (Int.le_refl _) (by rw [hz2]; omega) (by omega)
  simp only [Int.toNat_natCast, hz1, Nat.mul_one] at h
  exact h
/-- The first ones true. -/
def tf (m k : Nat) : List Bool := List.replicate k true ++ List.replicate (m - k) false
theorem tf_zero (m : Nat) : madeCells #[Value.bool false] m = (boolCells (tf m 0)).toArray := by
  apply Array.toList_inj.1
  rw [toList_madeCells_one]
  simp [boolCells, tf]
theorem tf_end (m : Nat) : tf m m = List.replicate m true := by simp [tf]
theorem tf_length (m k : Nat) (h : k ≤ m) : (tf m k).length = m := by simp [tf]; omega
theorem tf_set (m k : Nat) (h : k < m) : (boolCells (tf m k)).toArray.setIfInBounds k (.bool true) = (boolCells (tf m (k + 1))).toArray := by
  apply Array.toList_inj.1
  apply List.ext_getElem?
  intro j
  simp only [Array.toList_setIfInBounds, boolCells, List.getElem?_set, List.getElem?_map, List.length_map, tf_length m k (by omega)]
  by_cases e : k = j
  · subst e
    rw [if_pos rfl, if_pos h]
    simp [tf, List.getElem?_append]
  · rw [if_neg e]
    congr 1
    simp only [tf, List.getElem?_append, List.length_replicate, List.getElem?_replicate]
    by_cases h1 : j < k
    · rw [if_pos h1, if_pos h1, if_pos (by omega), if_pos (by omega)]
    · rw [if_neg h1, if_neg (show ¬ j < k + 1 by omega)]
      by_cases h2 : j < m
      · rw [if_pos (by omega), if_pos (by omega)]
      · rw [if_neg (by omega), if_neg (by omega)]
end Go.Proofs.Ytjedhemjojcekaa
