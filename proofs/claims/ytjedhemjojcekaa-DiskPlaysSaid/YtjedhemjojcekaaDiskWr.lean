/- Layer 4: Write. -/
import Derived.Test.YtjedhemjojcekaaDiskWt
namespace Go.Proofs.Ytjedhemjojcekaa
open Go.RowKit
attribute [local go_sem ↓] Go.wp_at_zero Go.wp_at_succ

/-- The bytes behind a write. -/
def writeNow (now : List UInt8) (p : Nat) (bs : List UInt8) : List UInt8 := splice (now ++ List.replicate (512 * needV now.length p bs.length - now.length) 0) p bs
def writeWt (now : List UInt8) (p : Nat) (bs : List UInt8) : List (Nat × List UInt8) := secs (writeNow now p bs) (p / 512) ((p + bs.length - 1) / 512 + 1 - p / 512)
theorem byteCells_splice (xs : List UInt8) (o : Nat) (bs : List UInt8) : splice (byteCells xs) o (byteCells bs) = byteCells (splice xs o bs) := by
  simp [splice, byteCells, List.map_take, List.map_drop]
theorem byteCells_zeros (k : Nat) : byteCells (List.replicate k 0) = List.replicate k (Value.int .u8 0) := by simp [byteCells]
theorem need_ge (l p n : Nat) (hm : l % 512 = 0) (hn : 0 < n) : l ≤ 512 * needV l p n ∧ p + n ≤ 512 * needV l p n ∧ 512 * ((p + n - 1) / 512) + 512 ≤ 512 * needV l p n := by
  unfold needV
  rw [if_neg (by omega)]
  have h1 : l = 512 * (l / 512) := by omega
  rcases Nat.le_total (l / 512) ((p + n - 1) / 512 + 1) with h | h
  · rw [Nat.max_eq_right h]; omega
  · rw [Nat.max_eq_left h]; omega
theorem need_top (l p n : Nat) (hl : l ≤ 2097152) (hp : p + n ≤ 2097152) (hn : 0 < n) : 512 * needV l p n ≤ 2097152 := by
  unfold needV
  rw [if_neg (by omega)]
  rcases Nat.le_total (l / 512) ((p + n - 1) / 512 + 1) with h | h
  · rw [Nat.max_eq_right h]; omega
  · rw [Nat.max_eq_left h]; omega
theorem writeNow_length (now : List UInt8) (p : Nat) (bs : List UInt8) (hm : now.length % 512 = 0) (hn : 0 < bs.length) : (writeNow now p bs).length = 512 * needV now.length p bs.length := by
  have := need_ge now.length p bs.length hm hn
  unfold writeNow
  rw [length_splice _ _ _ (by simp; omega)]
  simp
  omega
theorem Good.write {now safe : List UInt8} {waits : List (Nat × List UInt8)} (h : Good now safe waits) {p : Nat} {bs : List UInt8} (hp : p + bs.length ≤ 2097152) (hn : 0 < bs.length) : Good (writeNow now p bs) safe (waits ++ writeWt now p bs) := by
  have h1 := need_ge now.length p bs.length h.m1 hn
  have h2 := need_top now.length p bs.length h.top hp hn
  have h3 := writeNow_length now p bs h.m1 hn
  refine ⟨by omega, h.m2, by have := h.le; omega, by omega, fun x hx => ?_⟩
  rcases List.mem_append.1 hx with hx | hx
  · have := h.wt x hx
    exact ⟨by omega, this.2⟩
  · simp only [writeWt, secs, List.mem_map, List.mem_range] at hx
    obtain ⟨i, hi, rfl⟩ := hx
    exact ⟨by show 512 * (p / 512 + i) + 512 ≤ _; omega, secAt_length (by omega)⟩

/-- A disk's bytes in another slice. -/
theorem DkL.now_ {w w8 : World} {g base : Nat} {now safe : List UInt8} {L : List Wt} {A1 A2 A3 A : Option Addr} {c1 c2 c3 c : Nat} (h : DkL w g base now safe L A1 c1 A2 c2 A3 c3) {now' : List UInt8}
    (hm : Mod (orS (oneB g) (ownS (.slice A1 now.length c1))) w w8) (hb : DkB w8 g (.slice A now'.length c) (.slice A2 safe.length c2) (.slice A3 L.length c3)) (ho : OwnB w8 base 5 (.slice A now'.length c) now'.length now')
    (hpl : ∀ k, ownS (.slice A now'.length c) k → ownS (.slice A1 now.length c1) k ∨ w.heap.size ≤ k) :
    DkL w8 g base now' safe L A c A2 c2 A3 c3 ∧ Mod (dS g (.slice A1 now.length c1) (.slice A2 safe.length c2) (.slice A3 L.length c3)) w w8 ∧
      ∀ k, dS g (.slice A now'.length c) (.slice A2 safe.length c2) (.slice A3 L.length c3) k → dS g (.slice A1 now.length c1) (.slice A2 safe.length c2) (.slice A3 L.length c3) k ∨ w.heap.size ≤ k := by
  have hmod : Mod (dS g (.slice A1 now.length c1) (.slice A2 safe.length c2) (.slice A3 L.length c3)) w w8 := hm.mono (fun k hk => hk.elim (fun h1 => .inl h1) (fun h1 => dS_1 k h1))
  have hp2 : ∀ k, dS g (.slice A now'.length c) (.slice A2 safe.length c2) (.slice A3 L.length c3) k → dS g (.slice A1 now.length c1) (.slice A2 safe.length c2) (.slice A3 L.length c3) k ∨ w.heap.size ≤ k := by
    rintro k (hk | hk | hk | hk)
    · exact .inl (.inl hk)
    · rcases hpl k hk with h3 | h3
      · exact .inl (dS_1 k h3)
      · exact .inr h3
    · exact .inl (dS_2 k hk)
    · exact .inl (dS_3 k hk)
  refine ⟨⟨hb, ho, own_keep h.o2 hm (fun k hk he => ?_), own_keep h.o3 hm (fun k hk he => ?_), fun k hk h2 => ?_, fun x hx => (h.kept x hx).step hmod (fun k hk => hk) hp2⟩, hmod, hp2⟩
  · rcases he with he | he
    · exact h.ne2 (he ▸ hk)
    · exact h.apart k he hk
  · rcases he with he | he
    · exact h.ne3 (he ▸ hk)
    · exact own_ne2 h.o1 h.o3 (by decide) k he hk
  · rcases hpl k hk with h3 | h3
    · exact h.apart k h3 h2
    · have := own_lt h.o2 k h2
      omega

theorem write_grow {w w7 : World} {g base k : Nat} {now safe : List UInt8} {L : List Wt} {A1 A2 A3 A : Option Addr} {c1 c2 c3 c : Nat} (h : DkL w g base now safe L A1 c1 A2 c2 A3 c3)
    (hA : App w base 5 1 (.slice A1 now.length c1) (now.length + k) (byteCells now ++ List.replicate k (Value.int .u8 0)) w7 (.slice A (now.length + k) c)) :
    DkL (w7.setCell ⟨g, 0, none⟩ (.slice A (now.length + k) c)) g base (now ++ List.replicate k 0) safe L A c A2 c2 A3 c3 ∧ Mod (dS g (.slice A1 now.length c1) (.slice A2 safe.length c2) (.slice A3 L.length c3)) w (w7.setCell ⟨g, 0, none⟩ (.slice A (now.length + k) c)) ∧
      ∀ j, dS g (.slice A (now ++ List.replicate k 0).length c) (.slice A2 safe.length c2) (.slice A3 L.length c3) j → dS g (.slice A1 now.length c1) (.slice A2 safe.length c2) (.slice A3 L.length c3) j ∨ w.heap.size ≤ j := by
  have hl : (now ++ List.replicate k (0 : UInt8)).length = now.length + k := by simp
  have hm1 : Mod (ownS (.slice A1 now.length c1)) w w7 := Mod.of_app hA
  have hb7 : DkB w7 g (.slice A1 now.length c1) (.slice A2 safe.length c2) (.slice A3 L.length c3) := hm1.keep h.blk h.ne1
  have hne : ¬ ownS (.slice A (now.length + k) c) g := own_ne hA.own hb7 (by decide)
  have hset : Mod (oneB g) w7 (w7.setCell ⟨g, 0, none⟩ (.slice A (now.length + k) c)) := (Mod.refl (oneB g) w7).set ⟨g, 0, none⟩ _ (.inl rfl)
  refine h.now_ ((hm1.mono (fun _ hk => .inr hk)).trans hset (fun j hj => .inl (.inl hj))) (by rw [hl]; exact hb7.set0) ?_ (by rw [hl]; exact hA.place)
  have := own_keep hA.own hset (fun j hj he => hne (he ▸ hj))
  rw [hl, OwnB, byteCells_append, byteCells_zeros]
  exact this
theorem write_over {w w9 : World} {g base p : Nat} {now safe bs : List UInt8} {L : List Wt} {A1 A2 A3 : Option Addr} {c1 c2 c3 : Nat} (h : DkL w g base now safe L A1 c1 A2 c2 A3 c3) (hp : p + bs.length ≤ now.length)
    (ho : w9.ownsRow base 5 1 (.slice A1 now.length c1) now.length (splice (byteCells now) p (byteCells bs))) (hm : Mod (ownS (.slice A1 now.length c1)) w w9) :
    DkL w9 g base (splice now p bs) safe L A1 c1 A2 c2 A3 c3 ∧ Mod (dS g (.slice A1 now.length c1) (.slice A2 safe.length c2) (.slice A3 L.length c3)) w w9 ∧
      ∀ j, dS g (.slice A1 (splice now p bs).length c1) (.slice A2 safe.length c2) (.slice A3 L.length c3) j → dS g (.slice A1 now.length c1) (.slice A2 safe.length c2) (.slice A3 L.length c3) j ∨ w.heap.size ≤ j := by
  have hl : (splice now p bs).length = now.length := length_splice _ _ _ hp
  refine h.now_ (hm.mono (fun _ hk => .inr hk)) (by rw [hl]; exact hm.keep h.blk h.ne1) (by rw [hl, OwnB, ← byteCells_splice]; exact ho) (by rw [hl]; exact fun k hk => .inl hk)

theorem write_bad (g : Nat) (A : Option Addr) (l c : Nat) (p : Int) (w : World) (p0 : -9223372036854775808 ≤ p) (p1 : p ≤ 9223372036854775807) (hl : l ≤ 1099511627776) (hok : okW p (l : Int) = false) :
    Calls Try.prog 8 #[.pointer (some ⟨g, 0, none⟩), .int .i64 p, .slice A l c] w fun e w' => e = .returned (.int .i64 1) ∧ w = w' := by
  have HN := Lib.hid (need_bad g p l w p0 p1 (by omega) (by omega) hok)
  clear hok
  go_enter Try.func8, Try.ntmps8
  go_wp2_with (go_at_call 18; refine HN.out.mono ?_; rintro e w' ⟨rfl, rfl⟩)
  go_ret
  exact ⟨rfl, rfl⟩
theorem write_none (g base : Nat) (S : Nat → Prop) (now safe : List UInt8) (waits : List (Nat × List UInt8)) (A : Option Addr) (c p : Nat) (w : World) (h : DkS w g base S now safe waits) (hm : now.length ≤ 2097152) (hok : okW (p : Int) 0 = true) :
    Calls Try.prog 8 #[.pointer (some ⟨g, 0, none⟩), .int .i64 (p : Int), .slice A 0 c] w fun e w' => e = .returned (.int .i64 0) ∧ w = w' := by
  have HN := Lib.hid (need_any g base S now safe waits p 0 w h hm hok)
  clear hok h
  generalize needV now.length p 0 = z at *
  go_enter Try.func8, Try.ntmps8
  go_wp2_with (go_at_call 18; refine HN.out.mono ?_; rintro e w' ⟨rfl, rfl⟩)
  go_ret
  exact ⟨rfl, rfl⟩

set_option maxRecDepth 100000 in
set_option maxHeartbeats 1000000 in
theorem write_any (g base : Nat) (S : Nat → Prop) (now safe : List UInt8) (waits : List (Nat × List UInt8)) (A : Option Addr) (n c p : Nat) (bs : List UInt8) (w : World) (h : DkS w g base S now safe waits) (hg : Good now safe waits) (hbase : base ≤ w.heap.size)
    (hw : waits.length ≤ 1099511627776) (hn : bs.length = n) (hn0 : 0 < n) (hk : Kept w S A (byteCells bs)) (hok : okW (p : Int) (n : Int) = true) :
    Calls Try.prog 8 #[.pointer (some ⟨g, 0, none⟩), .int .i64 (p : Int), .slice A n c] w fun e w' => e = .returned (.int .i64 0) ∧ ∃ S', DkS w' g base S' (writeNow now p bs) safe (waits ++ writeWt now p bs) ∧ Mod S w w' ∧ ∀ k, S' k → S k ∨ w.heap.size ≤ k := by
  have hpn : p + n ≤ 2097152 := by simp [okW] at hok; omega
  have HN := Lib.hid (need_any g base S now safe waits p n w h hg.top hok)
  clear hok
  obtain ⟨L, A1, c1, A2, c2, A3, c3, h, rfl, rfl⟩ := h
  have hz1 := need_ge now.length p n hg.m1 hn0
  have hz2 := need_top now.length p n hg.top hpn hn0
  have HWN : Hid (writeNow now p bs = splice (now ++ List.replicate (512 * needV now.length p n - now.length) 0) p bs) := by show _ = _; unfold writeNow; rw [hn]
  have HWT : Hid (writeWt now p bs = secs (writeNow now p bs) (p / 512) ((p + n - 1) / 512 + 1 - p / 512)) := by show _ = _; unfold writeWt; rw [hn]
  have htop := hg.top
  generalize hz : needV now.length p n = z at *
  obtain ⟨k, hkz⟩ : ∃ k, k = 512 * z - now.length := ⟨_, rfl⟩
  rw [← hkz] at HWN
  have HL := Lib.hid h
  have HO1 := Lib.hid h.o1
  have HB := Lib.hid h.blk
  have HBS := Lib.hid hbase
  have HK := Lib.hid hk
  have HNE := Lib.hid h.ne1
  have HBN := Lib.hid hn
  have HGL : Hid (now.length = now.length) := rfl
  obtain ⟨k0, k1, k2, f0, f1, f2⟩ := h.blk.cells
  clear h hk hg hbase hz k1 k2 f1 f2
  have hlk : now.length + k = 512 * z := by omega
  rw [List.length_map] at hw
  have HW := Lib.hid hw
  clear hw hkz
  have hz5 : IntKind.i64.wrap ((z : Int) * 512) = ((512 * z : Nat) : Int) := by rw [show (z : Int) * 512 = ((512 * z : Nat) : Int) by omega]; exact IntWalk.i64_in _ (by omega)
  have hz6 : IntKind.i64.wrap (((512 * z : Nat) : Int) - (now.length : Int)) = (k : Int) := by rw [show ((512 * z : Nat) : Int) - (now.length : Int) = (k : Int) by omega]; exact IntWalk.i64_in _ (by omega)
  have HZ : Hid (now.length + k = 512 * z) := hlk
  obtain ⟨hz1a, hz1b, hz1c⟩ := hz1
  generalize 512 * z = m at *
  go_enter Try.func8, Try.ntmps8
  have hnz : ((n : Int) == 0) = false := by simp; omega
  go_wp2_with (go_at_call 18; refine HN.out.mono ?_; rintro e w' ⟨rfl, rfl⟩)
  go_region_law (refine step_append_zeros w.drew byteElem4 3 .i64 (by rfl) (by rfl) (by rfl) (.tmp 26) (.tmp 34) (by rfl) base (.slice A1 now.length c1) now.length (byteCells now) (by rfl) HO1.out.drew .i64 k (k : Int) (by rfl) (by rfl) (by unfold maxLen; omega) (by omega) HBS.out ?_; intro A4 c4 w7 hA; have HA := Lib.hid (App.undrew hA); clear hA; have HB7 : Hid (DkB w7 g _ _ _) := (Mod.of_app HA.out).keep HB.out HNE.out; obtain ⟨e0, e1, e2, f0, f1, f2⟩ := HB7.out.cells)
  all_goals
    have HG := Lib.hid (write_grow HL.out HA.out)
    rw [HZ.out] at HG
    clear HB7 e0 e1 e2 f0 f1 f2 HA
    obtain ⟨N0, hN0⟩ : ∃ N0, N0 = now ++ List.replicate k (0 : UInt8) := ⟨_, rfl⟩
    have HLN : Hid (N0.length = m) := by show _ = _; rw [hN0, List.length_append, List.length_replicate]; exact HZ.out
    rw [← hN0] at HG HWN
    generalize w7.setCell ⟨g, 0, none⟩ (.slice A4 m c4) = w8 at *
    have HD8 := Lib.hid HG.out.1
    have HM8 := Lib.hid HG.out.2.1
    have HP8 := Lib.hid HG.out.2.2
    have HK8 := Lib.hid (HK.out.step HM8.out (fun _ hj => hj) HP8.out)
    have HO8 := Lib.hid HD8.out.o1
    have HB8 := Lib.hid HD8.out.blk
    rw [HLN.out] at HO8 HB8
    clear HG hN0 HN k0 f0
    obtain ⟨e0, _⟩ := HB8.out.cells
    rcases own_A HO8.out with ⟨_, h0, _⟩ | ⟨b4, rfl⟩
    · omega
    have hc4 : m ≤ c4 := own_cap4 HO8.out
    have hcp : ¬ (c4 = p) := by omega
    have HCS : Hid ((byteCells bs).length = Nat.min n (m - p)) := by show _ = min n (m - p); rw [byteCells_length, HBN.out]; omega
    have HFIT : Hid (p + (byteCells bs).length ≤ m) := by show _ ≤ _; rw [byteCells_length, HBN.out]; omega
    obtain ⟨w9, hrun, hown, hmod⟩ := run_copy_into (P := Try.prog) w8 HO8.out 25 25 3 Try.underlying25 byteSize4 (some ⟨b4, p, none⟩) A (m - p) (c4 - p) n c p (byteCells bs) HCS.out (fun _ => ⟨b4, rfl, rfl⟩) w8.heap.size (byteCells bs) HK8.out.cells (List.take_length).symm HFIT.out (byteCells_one _)
    have HO9 := Lib.hid hown
    have HM9 := Lib.hid hmod
    clear hown hmod
    go_wp2_with fail
    obtain ⟨hd9, hm9, hp9⟩ := write_over (p := p) (bs := bs) HD8.out (by rw [HLN.out, HBN.out]; omega) (by rw [HLN.out]; exact HO9.out) (by rw [HLN.out]; exact HM9.out)
    have hlw : (splice N0 p bs).length = m := by rw [length_splice _ _ _ (by rw [HLN.out, HBN.out]; omega)]; exact HLN.out
    have hwt := wait_any g base _ (splice N0 p bs) safe (L.map Wt.two) (p / 512) ((p + n - 1) / 512) w9 ⟨L, _, c4, A2, c2, A3, c3, hd9, rfl, rfl⟩ (by rw [hlw]; omega) (Nat.le_trans HBS.out (Nat.le_trans HM8.out.size hm9.size)) (by omega) (by rw [hlw]; exact hz1c) (by rw [List.length_map]; exact HW.out)
    rw [show ((p / 512 : Nat) : Int) = (p : Int) / 512 by omega, show (((p + n - 1) / 512 : Nat) : Int) = ((p : Int) + (n : Int) - 1) / 512 by omega] at hwt
    have HM := Lib.hid (HM8.out.trans hm9 HP8.out)
    have HPP := Lib.hid hp9
    have HS9 := Lib.hid hm9.size
    clear hd9 hm9 hp9 hlw
    refine hwt.mono ?_
    rintro e w10 ⟨rfl, S', hd, hmod, hpl⟩
    have HD10 := Lib.hid hd
    have HM10 := Lib.hid hmod
    have HP10 := Lib.hid hpl
    clear hd hmod hpl hwt
    go_wp2
    go_ret
    refine ⟨rfl, S', ?_, HM.out.trans HM10.out (fun j hj => ?_), fun j hj => ?_⟩
    · rw [HWT.out, HWN.out]; exact HD10.out
    · rcases HPP.out j hj with h1 | h1
      · exact HP8.out j h1
      · exact .inr (Nat.le_trans HM8.out.size h1)
    · rcases HP10.out j hj with h1 | h1
      · rcases HPP.out j h1 with h2 | h2
        · exact HP8.out j h2
        · exact .inr (Nat.le_trans HM8.out.size h2)
      · exact .inr (Nat.le_trans HM8.out.size (Nat.le_trans HS9.out h1))
end Go.Proofs.Ytjedhemjojcekaa
