/- Law DiskWhole. -/
import Derived.Test.YtbchageboghilaaDiskPlain
import Derived.Test.YtbchageboghilaaLists
import Derived.BigQuiet
namespace Go.Proofs.Ytbchageboghilaa
open Go.RowKit
attribute [local go_sem ↓] Go.wp_at_zero Go.wp_at_succ

theorem kept_of_cells {w : World} {B : Nat} {A : Option Addr} {xs : List Value} {S : Nat → Prop} (h : Cells w B A xs) (hS : ∀ k, S k → B ≤ k) (h0 : 0 < xs.length) : Kept w S A xs := by
  obtain ⟨b, o, rfl, hb, hc⟩ := h h0
  have h1 := hc 0 xs[0] (List.getElem?_eq_getElem h0)
  have key : ∃ cs t fr, w.heap[b]? = some (.cells cs t fr) := by
    unfold World.cell? at h1
    split at h1
    · rename_i cs t fr hh
      exact ⟨cs, t, fr, hh⟩
    all_goals cases h1
  obtain ⟨cs, t, fr, hh⟩ := key
  refine ⟨b, o, cs, t, fr, rfl, fun hs => by have := hS b hs; omega, hh, fun j u hj => ?_⟩
  have := hc j u hj
  rwa [cell_of_row _ _ _ _ _ _ hh] at this

theorem below_drewN' {B : Nat} {w w' : World} (h : Below B w w') (n : Nat) : Below B w (w'.drewN n) := ⟨h.os, h.tape, h.output, h.size, h.block⟩

theorem wpList_append_zeros {P : Program} (w : World) {ops : Array Oper} {rest : List Oper} {o : Oper} {a : Act} {Q : Exit → Act → World → Prop} {t e : TypeId} {z : Value} {bytes : Nat} (E : Elem P t e z 1 bytes) (tn : TypeId) (kn : IntKind) (htn : P.underlying tn = some (.int kn)) (hz1 : (z.cells[0]!).oneCell' = true)
    (hgd : o.guard = none) (s x : Operand) (ho : o.op = .call { callee := .builtin .append, args := #[s, x], argTypes := #[t, tn] }) (base : Nat)
    (v : Value) (n : Nat) (xs : List Value) (hs : a.eval s = v) (hown : w.ownsRow base e 1 v n xs) (kq : IntKind) (k : Nat) (ki : Int) (hki : ki = (k : Int)) (hx : a.eval x = .int kq ki)
    (h63 : n + k ≤ maxLen) (hbytes : (n + k) * bytes ≤ 140737488355328) (hbase : base ≤ w.heap.size)
    (h : ∀ A' c' w', App w base e 1 v (n + k) (xs ++ List.replicate k (z.cells[0]!)) w' (.slice A' (n + k) c') → wpList P ops Q rest (a.put o.dst (.slice A' (n + k) c')) w') : wpList P ops Q (o :: rest) a w := by
  refine wpList_plain hgd fun K hK => ?_
  subst hki
  obtain ⟨A', c', w', hr, h2⟩ := run_append_zeros (P := P) w E tn kn htn hz1 base o.type v n xs hown kq k h63 hbytes hbase
  unfold Oper.wp execOp
  simp only [ho, resolve, invoke, builtin, Sem.run_bind, Sem.run_pure, Result.andThen_ok, List.map_toArray, List.map_cons, List.map_nil, hs, hx, hr]
  exact hK _ _ (h A' c' w' h2)

/-- Is a sector one of those that a write touches? -/
def touches (p n i : Nat) : Prop := 0 < n ∧ p / 512 ≤ i ∧ i < (p + n - 1) / 512 + 1
instance (p n i : Nat) : Decidable (touches p n i) := by unfold touches; infer_instance
/-- A write into a disk all of which is safe, and what a crash leaves of it. -/
theorem whole_write (g base : Nat) (S : Nat → Prop) (N1 : List UInt8) (A : Option Addr) (n c p : Nat) (bs : List UInt8) (w : World) (h : DkS w g base S N1 N1 []) (hl : N1.length = 8192) (hbase : base ≤ w.heap.size) (hn : bs.length = n) (hp : p ≤ 3000) (hn2 : n ≤ 3000)
    (hk : 0 < n → Kept w S A (byteCells bs)) :
    Calls Try.prog 14 #[.pointer (some ⟨g, 0, none⟩), .int .i64 (p : Int), .slice A n c] w fun e w' => e = .returned (.int .i64 0) ∧ ∃ S' N2 W2, DkS w' g base S' N2 N1 W2 ∧ Mod S w w' ∧ (∀ k, S' k → S k ∨ w.heap.size ≤ k) ∧ Good N2 N1 W2 ∧ W2.length ≤ 1099511627776 ∧ N2.length = 8192 ∧
      ∀ ks i, secAt i (crashNow N2 N1 W2 ks 9) = if touches p n i ∧ ks[i - p / 512]? = some true then secAt i N2 else secAt i N1 := by
  have hok : okW (p : Int) (n : Int) = true := by simp [okW]; omega
  have hg : Good N1 N1 [] := ⟨by omega, by omega, Nat.le_refl _, by omega, fun _ hx => by cases hx⟩
  rcases Nat.eq_zero_or_pos n with h0 | h0
  · subst h0
    refine (write_none g base S N1 N1 [] A c p w h (by omega) hok).mono ?_
    rintro e w' ⟨rfl, rfl⟩
    refine ⟨rfl, S, N1, [], h, Mod.refl _ _, fun _ hk => .inl hk, hg, by simp, hl, fun ks i => ?_⟩
    rw [crash_none, if_neg (fun h => by have := h.1.1; omega)]
  · refine (write_any g base S N1 N1 [] A n c p bs w h hg hbase (by simp) hn h0 (hk h0) hok).mono ?_
    rintro e w' ⟨rfl, S', hd, hm, hpl⟩
    have hg2 := hg.write (p := p) (bs := bs) (by omega) (by omega)
    rw [List.nil_append] at hd hg2
    refine ⟨rfl, S', _, _, hd, hm, hpl, hg2, ?_, ?_, fun ks i => ?_⟩
    · unfold writeWt
      rw [secs_length]
      omega
    · rw [write_within N1 bs p (by omega) (by omega) (by omega)]; exact hl
    · rw [crash_sec N1 bs p 9 ks (by omega) (by omega) (by omega)]
      unfold touches
      rw [hn]
      by_cases h1 : p / 512 ≤ i ∧ i < (p + n - 1) / 512 + 1 ∧ ks[i - p / 512]? = some true
      · rw [if_pos h1, if_pos ⟨⟨h0, h1.1, h1.2.1⟩, h1.2.2⟩]
      · rw [if_neg h1, if_neg (fun h2 => h1 ⟨h2.1.2.1, h2.1.2.2, h2.2⟩)]

/-- How many sectors before one are touched. -/
def kcnt (p n i : Nat) : Nat := if n = 0 then 0 else min i ((p + n - 1) / 512 + 1) - min i (p / 512)
theorem kcnt_at {p n i : Nat} (h : touches p n i) : kcnt p n i = i - p / 512 := by
  obtain ⟨h1, h2, h3⟩ := h
  unfold kcnt
  rw [if_neg (by omega)]
  omega
theorem kcnt_succ (p n i : Nat) : kcnt p n (i + 1) = if touches p n i then kcnt p n i + 1 else kcnt p n i := by
  by_cases ht : touches p n i
  · rw [if_pos ht]
    obtain ⟨h1, h2, h3⟩ := ht
    unfold kcnt
    rw [if_neg (by omega), if_neg (by omega)]
    omega
  · rw [if_neg ht]
    unfold kcnt
    by_cases h0 : n = 0
    · rw [if_pos h0, if_pos h0]
    · rw [if_neg h0, if_neg h0]
      have : ¬ (p / 512 ≤ i ∧ i < (p + n - 1) / 512 + 1) := fun h => ht ⟨by omega, h.1, h.2⟩
      omega
theorem kcnt_le (p n i : Nat) : kcnt p n i ≤ i := by
  unfold kcnt
  split <;> omega
theorem cut_str {w : World} {B b o c l : Nat} {X : List UInt8} (h : Bytes w B (some ⟨b, 0, none⟩) X) (i : Nat) (hX : 512 * i + 512 ≤ X.length) (ho : o = 512 * i) (hl : l = 512) (n : Nat) :
    (convert 25 9 (.slice (some ⟨b, o, none⟩) l c)).run Try.prog (w.drewN n) = .ok (.string ⟨(secAt i X).toArray⟩) (w.drewN n) := by
  subst ho hl
  refine run_string_of (B := B) 25 9 5 Try.underlying25 Try.underlying5 Try.underlying9 ?_ (secAt_length hX)
  refine fun _ => ?_
  obtain ⟨b', o', e, hb, hc⟩ := h (by rw [byteCells_length]; omega)
  injection e with e
  injection e with e1 e2
  subst e1 e2
  refine ⟨b, 512 * i, rfl, hb, fun j u hj => ?_⟩
  have hj' : (byteCells X)[512 * i + j]? = some u := by
    simp only [byteCells, secAt, List.getElem?_map, List.getElem?_take, List.getElem?_drop] at hj ⊢
    split at hj
    · exact hj
    · cases hj
  have := hc (512 * i + j) u hj'
  rwa [Nat.zero_add] at this

set_option maxRecDepth 100000 in
set_option maxHeartbeats 2000000 in
theorem whole_any (aP bP kP : Option Addr) (al ac bl bc kl kc : Nat) (p : Int) (xs bs : List UInt8) (ks : List Bool) (w : World) (p0 : -9223372036854775808 ≤ p) (p1 : p ≤ 9223372036854775807)
    (hal : xs.length = al) (hbl : bs.length = bl) (hkl : ks.length = kl) (hall : al ≤ 9223372036854775807) (hbll : bl ≤ 9223372036854775807) (hkll : kl ≤ 9223372036854775807) (ha : Bytes w w.heap.size aP xs) (hb : Bytes w w.heap.size bP bs) (hk : Cells w w.heap.size kP (boolCells ks)) :
    Calls Try.prog 5 #[.agg #[.slice aP al ac, .slice bP bl bc, .int .i64 p, .slice kP kl kc]] w fun e w' => e = .returned (.bool true) ∧ Below w.heap.size w w' := by
  have HLV := Lib.hid (fun W => lives4_any W)
  have HA := Lib.hid ha
  have HB := Lib.hid hb
  have HK := Lib.hid hk
  have HAL := Lib.hid hal
  have HBL := Lib.hid hbl
  have HKL := Lib.hid hkl
  clear ha hb hk hal hbl hkl
  go_enter Try.func5, Try.ntmps5
  go_wp2
  go_quiet (fail)
  have HB1 := Lib.hid (below_drewN' ((Below.refl w.heap.size w).alloc (Nat.le_refl _) (.cells #[.slice aP al ac, .slice bP bl bc, .int .i64 p, .slice kP kl kc] 48)) nq)
  generalize (w.alloc (.cells #[.slice aP al ac, .slice bP bl bc, .int .i64 p, .slice kP kl kc] 48)).drewN nq = w1 at *
  have HA1 := Lib.hid (HA.out.below HB1.out (Nat.le_refl _))
  have HB1' := Lib.hid (HB.out.below HB1.out (Nat.le_refl _))
  have HK1 := Lib.hid (HK.out.below HB1.out (Nat.le_refl _))
  by_cases h1 : 5000 < al
  · go_wp2_with (go_at_call 7; refine (HLV.out _).mono ?_; rintro e w' ⟨rfl, hb9⟩; have HB9 := Lib.hid hb9; clear hb9)
    go_ret
    exact ⟨rfl, HB1.out.trans (HB9.out.mono HB1.out.size)⟩
  by_cases h2 : 3000 < bl
  · go_wp2_with (go_at_call 7; refine (HLV.out _).mono ?_; rintro e w' ⟨rfl, hb9⟩; have HB9 := Lib.hid hb9; clear hb9)
    go_ret
    exact ⟨rfl, HB1.out.trans (HB9.out.mono HB1.out.size)⟩
  by_cases h3 : p < 0
  · go_wp2_with (go_at_call 7; refine (HLV.out _).mono ?_; rintro e w' ⟨rfl, hb9⟩; have HB9 := Lib.hid hb9; clear hb9)
    go_ret
    exact ⟨rfl, HB1.out.trans (HB9.out.mono HB1.out.size)⟩
  by_cases h4 : 3000 < p
  · go_wp2_with (go_at_call 7; refine (HLV.out _).mono ?_; rintro e w' ⟨rfl, hb9⟩; have HB9 := Lib.hid hb9; clear hb9)
    go_ret
    exact ⟨rfl, HB1.out.trans (HB9.out.mono HB1.out.size)⟩
  by_cases h5 : 100 < kl
  · go_wp2_with (go_at_call 7; refine (HLV.out _).mono ?_; rintro e w' ⟨rfl, hb9⟩; have HB9 := Lib.hid hb9; clear hb9)
    go_ret
    exact ⟨rfl, HB1.out.trans (HB9.out.mono HB1.out.size)⟩
  obtain ⟨q, rfl⟩ := Int.eq_ofNat_of_zero_le (show 0 ≤ p by omega)
  have hB : w.heap.size ≤ w1.heap.size := HB1.out.size
  have HD0 := Lib.hid (DkS.new w1 w1.heap.size)
  obtain ⟨kz, hkz⟩ : ∃ kz, kz = 8192 - al := ⟨_, rfl⟩
  have h81 : al + kz = 8192 := by omega
  have hsub : IntKind.i64.wrap (8192 - (al : Int)) = (kz : Int) := by rw [show (8192 - (al : Int)) = (kz : Int) by omega]; exact IntWalk.i64_in _ (by omega)
  have HOE : Hid (((w1.alloc (.cells #[.slice none 0 0, .slice none 0 0, .slice none 0 0] 28)).alloc (.cells #[] 5)).ownsRow (w1.heap.size + 1) 5 1 (.slice (some ⟨w1.heap.size + 1, 0, none⟩) 0 0) 0 []) := by
    have := own_empty (w1.alloc (.cells #[.slice none 0 0, .slice none 0 0, .slice none 0 0] 28)) 5 (base := w1.heap.size + 1) (by simp)
    rwa [World.size_alloc] at this
  have HXE := Lib.hid ((HA1.out.alloc hB (.cells #[.slice none 0 0, .slice none 0 0, .slice none 0 0] 28)).alloc (by simp; omega) (.cells #[] 5))
  have HBIG := Lib.hid (show w1.heap.size + 1 ≤ ((w1.alloc (.cells #[.slice none 0 0, .slice none 0 0, .slice none 0 0] 28)).alloc (.cells #[] 5)).heap.size by simp)
  clear HA hkz HB1' HK1
  go_wp2_with (first
    | (at_builtin; refine wpList_app _ byteElem4 rfl (.tmp 51) (.tmp 52) rfl (w1.heap.size + 1) (.slice (some ⟨w1.heap.size + 1, 0, none⟩) 0 0) 0 [] rfl HOE.out w.heap.size aP al ac (byteCells xs) rfl (by rw [byteCells_length, HAL.out, Nat.mul_one]) HXE.out (byteCells_one _) (by unfold maxLen; omega) (by omega) HBIG.out ?_; intro A5 c5 w5 hA5; simp only [Nat.zero_add, List.nil_append] at hA5; have HA5 := Lib.hid hA5; have HB5 := Lib.hid (Nat.le_trans HBIG.out (Mod.of_app hA5).size); clear hA5)
    | (at_builtin; refine wpList_append_zeros w5 byteElem4 3 .i64 (by rfl) (by rfl) rfl (.tmp 53) (.tmp 56) rfl (w1.heap.size + 1) (.slice A5 al c5) al (byteCells xs) rfl HA5.out.own .i64 kz (kz : Int) rfl rfl (by unfold maxLen; omega) (by omega) HB5.out ?_; intro A6 c6 w6 hA6; have HA6 := Lib.hid (HA5.out.trans hA6); clear hA6)
    | fail)
  have hmD : Mod (ownS (.slice (some ⟨w1.heap.size + 1, 0, none⟩) 0 0)) (w1.alloc (.cells #[.slice none 0 0, .slice none 0 0, .slice none 0 0] 28)) w6 := ((Mod.refl _ _).alloc (.cells #[] 5)).then_ (Mod.of_app HA6.out)
  have hd6 := HD0.out.keep hmD (fun k hk => by
    have : w1.heap.size + 1 = k := by simpa [ownS, Value.ownBlock] using hk
    rw [World.size_alloc]
    omega)
  have hs6 := hmD.size
  rw [World.size_alloc] at hs6
  have hb6 : Below w.heap.size w w6 := hmD.below (HB1.out.alloc hB (.cells #[.slice none 0 0, .slice none 0 0, .slice none 0 0] 28)) (by rw [World.size_alloc]; omega) (fun k hk => by
    have : w1.heap.size + 1 = k := by simpa [ownS, Value.ownBlock] using hk
    omega)
  obtain ⟨N1, hN1⟩ : ∃ N1, N1 = xs ++ List.replicate kz (0 : UInt8) := ⟨_, rfl⟩
  have hl1 : N1.length = 8192 := by rw [hN1, List.length_append, List.length_replicate, HAL.out]; exact h81
  have ho6 : OwnB w6 (w1.heap.size + 1) 5 (.slice A6 8192 c6) 8192 N1 := by
    have := HA6.out.own
    rw [h81] at this
    rw [OwnB, hN1, byteCells_append, byteCells_zeros]
    exact this
  rcases own_A ho6 with ⟨_, h0, _⟩ | ⟨b6, rfl⟩
  · omega
  have hb6g : w1.heap.size + 1 ≤ b6 := (ho6.lt b6 rfl).1
  have hk6 := kept_of_own (S := oneB w1.heap.size) ho6 (fun h => by have : b6 = w1.heap.size := h; omega) 0 N1 (by simp)
  have hW := write_any w1.heap.size w1.heap.size _ [] [] [] (some ⟨b6, 0, none⟩) 8192 c6 0 N1 w6 hd6 Good.new (by omega) (by simp) hl1 (by omega) hk6 (by decide)
  have hG := Good.new.write (p := 0) (bs := N1) (by omega) (by omega)
  rw [write_first N1 8192 hl1 (by omega) (by omega)] at hW hG
  generalize hg : w1.heap.size = g at *
  have HN1 := Lib.hid hl1
  have HB6 := Lib.hid hb6
  have HG := Lib.hid hG
  clear HOE HXE HBIG HA5 HB5 HA6 HD0 hmD hd6 hb6 ho6 hk6 hG hN1 hl1 hb6g HA1 HAL h81 hsub
  refine hW.mono ?_
  rintro e w7 ⟨rfl, S7, hd, hm, hpl⟩
  have hp7 : ∀ k, S7 k → w.heap.size ≤ k := fun k hk => by
    rcases hpl k hk with h | h
    · have : k = g := h
      omega
    · have := HB6.out.size
      omega
  have hb7 := hm.below HB6.out HB6.out.size (fun k hk => by have : k = g := hk; omega)
  have hs7 : g ≤ w7.heap.size := by have := hm.size; omega
  have hSy := sync_any g g S7 N1 [] _ w7 hd (by rw [HN1.out]; omega) hs7
  have HP7 := Lib.hid hp7
  have HB7 := Lib.hid hb7
  clear hd hm hpl hp7 hb7 hW HB6
  go_wp2_with fail
  refine hSy.mono ?_
  rintro e w8 ⟨rfl, S8, hd, hm, hpl⟩
  have hp8 : ∀ k, S8 k → w.heap.size ≤ k := fun k hk => by
    rcases hpl k hk with h | h
    · exact HP7.out k h
    · have := HB7.out.size
      omega
  have hb8 := hm.below HB7.out HB7.out.size HP7.out
  have hs8 : g ≤ w8.heap.size := by have := hm.size; omega
  have HD8 := Lib.hid hd
  have HP8 := Lib.hid hp8
  have HB8 := Lib.hid hb8
  clear hd hm hpl hp8 hb8 hSy HB7 HP7
  go_wp2_with fail
  refine (dread_any g g S8 N1 N1 [] 0 8192 w8 HD8.out (by rw [HN1.out]; omega) (by decide)).mono ?_
  rintro e w9 ⟨A9, c9, rfl, ho, hb⟩
  rw [readV_all _ _ HN1.out] at ho
  rcases own_A ho with ⟨_, h0, _⟩ | ⟨b9, rfl⟩
  · omega
  have hc9 : 8192 ≤ c9 := own_cap4 ho
  have HO9 := Lib.hid (kept_of_own (S := S8) ho (fun h => by have h1 := HD8.out.lt b9 h; have h2 := (ho.lt b9 rfl).1; omega) 0 N1 (by simp))
  have HD9 := Lib.hid (HD8.out.keep (Mod.of_below hb) (fun _ h => h.elim))
  have HB9 := Lib.hid (HB8.out.trans (hb.mono HB8.out.size))
  have hs9 : g ≤ w9.heap.size := by have := hb.size; omega
  clear ho hb HD8
  go_wp2_with fail
  refine (whole_write g g S8 N1 bP bl bc q bs w9 HD9.out HN1.out hs9 HBL.out (by omega) (by omega) (fun h0 => kept_of_cells (HB.out.below HB9.out (Nat.le_refl _)) HP8.out (by rw [byteCells_length, HBL.out]; exact h0))).mono ?_
  rintro e w10 ⟨rfl, S10, N2, W2, hd, hm, hpl, hg2, hw2, hl2, hsec⟩
  have hp10 : ∀ k, S10 k → w.heap.size ≤ k := fun k hk => by
    rcases hpl k hk with h | h
    · exact HP8.out k h
    · have := HB9.out.size
      omega
  have HB10 := Lib.hid (hm.below HB9.out HB9.out.size HP8.out)
  have hs10 : g ≤ w10.heap.size := by have := hm.size; omega
  have HD10 := Lib.hid hd
  have HP10 := Lib.hid hp10
  have HO10 := Lib.hid (HO9.out.step hm (fun _ h => h) hpl)
  have HG2 := Lib.hid hg2
  have HL2 := Lib.hid hl2
  have HW2 := Lib.hid hw2
  have HSEC := Lib.hid hsec
  clear hd hm hpl hp10 hg2 hw2 hl2 hsec HD9 HB8 HP8
  go_wp2_with fail
  refine (dread_any g g S10 N2 N1 W2 0 8192 w10 HD10.out (by rw [HL2.out]; omega) (by decide)).mono ?_
  rintro e w11 ⟨A11, c11, rfl, ho, hb⟩
  rw [readV_all _ _ HL2.out] at ho
  rcases own_A ho with ⟨_, h0, _⟩ | ⟨b11, rfl⟩
  · omega
  have hc11 : 8192 ≤ c11 := own_cap4 ho
  have HQ11 := Lib.hid (kept_of_own (S := S10) ho (fun h => by have h1 := HD10.out.lt b11 h; have h2 := (ho.lt b11 rfl).1; omega) 0 N2 (by simp))
  have HO11 := Lib.hid (HO10.out.step (Mod.of_below hb) (fun _ h => h.elim) (fun _ h => .inl h))
  have HD11 := Lib.hid (HD10.out.keep (Mod.of_below hb) (fun _ h => h.elim))
  have HB11 := Lib.hid (HB10.out.trans (hb.mono HB10.out.size))
  have hs11 : g ≤ w11.heap.size := by have := hb.size; omega
  clear ho hb HD10 HO10 HB10
  go_wp2_with fail
  have hCr := crash_any g g S10 N2 N1 W2 kP kc 9 ks w11 HD11.out HG2.out hs11 HW2.out (by rw [HKL.out]; omega) (fun h0 => kept_of_cells (HK.out.below HB11.out (Nat.le_refl _)) HP10.out (by simpa [boolCells] using h0)) (by omega)
  rw [HKL.out] at hCr
  have hlc := crashNow_length HG2.out ks 9
  rw [HL2.out] at hlc
  have HSEC2 := Lib.hid (HSEC.out ks)
  obtain ⟨C, hC⟩ : ∃ C, C = crashNow N2 N1 W2 ks 9 := ⟨_, rfl⟩
  rw [← hC] at hCr hlc HSEC2
  have HLC := Lib.hid hlc
  clear hlc hC HSEC HD11 HW2 HG2
  refine hCr.mono ?_
  rintro e w12 ⟨rfl, S12, hd, hm, hpl⟩
  have HB12 := Lib.hid (hm.below HB11.out HB11.out.size HP10.out)
  have hs12 : g ≤ w12.heap.size := by have := hm.size; omega
  have HD12 := Lib.hid hd
  have HO12 := Lib.hid (HO11.out.step hm (fun _ h => h) hpl)
  have HQ12 := Lib.hid (HQ11.out.step hm (fun _ h => h) hpl)
  clear hd hm hpl HO11 HQ11 HB11 HP10 hCr
  go_wp2_with fail
  refine (dread_any g g S12 C C [] 0 8192 w12 HD12.out (by rw [HLC.out]; omega) (by decide)).mono ?_
  rintro e w13 ⟨A13, c13, rfl, ho, hb⟩
  rw [readV_all _ _ HLC.out] at ho
  rcases own_A ho with ⟨_, h0, _⟩ | ⟨b13, rfl⟩
  · omega
  have hc13 : 8192 ≤ c13 := own_cap4 ho
  have HR13 := Lib.hid (kept_of_own (S := S12) ho (fun h => by have h1 := HD12.out.lt b13 h; have h2 := (ho.lt b13 rfl).1; omega) 0 C (by simp)).cells
  have HO13 := Lib.hid (HO12.out.step (Mod.of_below hb) (fun _ h => h.elim) (fun _ h => .inl h)).cells
  have HQ13 := Lib.hid (HQ12.out.step (Mod.of_below hb) (fun _ h => h.elim) (fun _ h => .inl h)).cells
  have HB13 := Lib.hid (HB12.out.trans (hb.mono HB12.out.size))
  have HK13 := Lib.hid (HK.out.below HB13.out (Nat.le_refl _))
  clear ho hb HD12 HO12 HQ12 HB12 HB HK HB1 HB9
  go_wp2
  generalize w13.heap.size = B at *
  go_loopg [14, 15] 16 (fun gk v v' wr => ∃ i : Nat, i + gk = 16 ∧ v = .int .i64 ((kcnt q bl i : Nat) : Int) ∧ v' = .int .i64 (i : Int) ∧ Bytes wr B (some ⟨b9, 0, none⟩) N1 ∧ Bytes wr B (some ⟨b11, 0, none⟩) N2 ∧ Bytes wr B (some ⟨b13, 0, none⟩) C ∧ Cells wr w.heap.size kP (boolCells ks) ∧ Below w.heap.size w wr)
  case atStart => exact ⟨0, by omega, by unfold kcnt; simp, rfl, HO13.out, HQ13.out, HR13.out, HK13.out, HB13.out⟩
  case round =>
    clear HO13 HQ13 HR13 HK13 HB13
    obtain ⟨i, hi, rfl, rfl, ho, hq, hr, hk, hb⟩ := hrel
    by_cases hi16 : i < 16
    · have hS1 := fun n => cut_str (c := c9 - 512 * i) (l := 512) ho i (by rw [HN1.out]; omega) rfl rfl n
      have hS2 := fun n => cut_str (c := c11 - 512 * i) (l := 512) hq i (by rw [HL2.out]; omega) rfl rfl n
      have hS3 := fun n => cut_str (c := c13 - 512 * i) (l := 512) hr i (by rw [HLC.out]; omega) rfl rfl n
      have HO := Lib.hid ho
      have HQ := Lib.hid hq
      have HR := Lib.hid hr
      have HK := Lib.hid hk
      have HBW := Lib.hid hb
      clear ho hq hr hk hb
      have HSI := Lib.hid (HSEC2.out i)
      have HKA := Lib.hid (@kcnt_at q bl i)
      have HKS := Lib.hid (kcnt_succ q bl i)
      have hkle := kcnt_le q bl i
      generalize hs1 : (⟨(secAt i N1).toArray⟩ : ByteArray) = x1 at *
      generalize hs2 : (⟨(secAt i N2).toArray⟩ : ByteArray) = x2 at *
      generalize hs3 : (⟨(secAt i C).toArray⟩ : ByteArray) = x3 at *
      have HS1 := Lib.hid hs1
      have HS2 := Lib.hid hs2
      have HS3 := Lib.hid hs3
      clear hs1 hs2 hs3
      generalize kcnt q bl i = kn at *
      have n9 : ¬ (c9 = 512 * i) := by omega
      have n11 : ¬ (c11 = 512 * i) := by omega
      have n13 : ¬ (c13 = 512 * i) := by omega
      go_wp2
      go_quiet (fail)
      have HO2 := Lib.hid (HO.out.drewN' nq)
      have HQ2 := Lib.hid (HQ.out.drewN' nq)
      have HR2 := Lib.hid (HR.out.drewN' nq)
      have HK2 := Lib.hid (HK.out.drewN' nq)
      have HBW2 := Lib.hid (below_drewN' HBW.out nq)
      clear hS1 hS2 hS3 HO HQ HR HK HBW n9 n11 n13
      generalize wr.drewN nq = w2 at *
      by_cases ht : touches q bl i
      · have HT := Lib.hid ht
        obtain ⟨t1, t2, t3⟩ := ht
        have t4 : 512 * i < q + bl := by omega
        have t5 : q < 512 * i + 512 := by omega
        clear t2 t3
        by_cases hkn : kn < kl
        · obtain ⟨kb, hkb⟩ := get_lt (bs := ks) (k := kn) (by rw [HKL.out]; exact hkn)
          obtain ⟨bk, ok, u, rfl, hbk, hu, hcell⟩ := HK2.out.at_ (k := kn) (by simp only [boolCells, List.length_map]; rw [HKL.out]; exact hkn)
          have hub : u = .bool kb := by simp only [boolCells, List.getElem?_map, hkb] at hu; exact (Option.some.inj hu).symm
          subst hub
          have HKB := Lib.hid hkb
          clear hkb hu hbk
          cases kb
          · obtain rfl : x3 = x1 := by rw [← HS3.out, ← HS1.out, HSI.out, if_neg (fun h => by have h1 := h.2; rw [← HKA.out HT.out, HKB.out] at h1; cases h1)]
            go_wp2
            go_roundg (gk - 1)
            case measure => omega
            case rel => exact ⟨i + 1, by omega, by rw [HKS.out, if_pos HT.out]; try (first | rfl | (congr 1; omega)), rfl, HO2.out, HQ2.out, HR2.out, HK2.out, HBW2.out⟩
          · obtain rfl : x3 = x2 := by rw [← HS3.out, ← HS2.out, HSI.out, if_pos ⟨HT.out, by rw [← HKA.out HT.out]; exact HKB.out⟩]
            go_wp2
            go_roundg (gk - 1)
            case measure => omega
            case rel => exact ⟨i + 1, by omega, by rw [HKS.out, if_pos HT.out]; try (first | rfl | (congr 1; omega)), rfl, HO2.out, HQ2.out, HR2.out, HK2.out, HBW2.out⟩
        · obtain rfl : x3 = x1 := by rw [← HS3.out, ← HS1.out, HSI.out, if_neg (fun h => by have h1 := h.2; rw [← HKA.out HT.out, List.getElem?_eq_none (by rw [HKL.out]; omega)] at h1; cases h1)]
          go_wp2
          go_roundg (gk - 1)
          case measure => omega
          case rel => exact ⟨i + 1, by omega, by rw [HKS.out, if_pos HT.out]; try (first | rfl | (congr 1; omega)), rfl, HO2.out, HQ2.out, HR2.out, HK2.out, HBW2.out⟩
      · have HT := Lib.hid ht
        obtain rfl : x3 = x1 := by rw [← HS3.out, ← HS1.out, HSI.out, if_neg (fun h => HT.out h.1)]
        by_cases c1 : bl = 0
        · subst c1
          go_wp2
          go_roundg (gk - 1)
          case measure => omega
          case rel => exact ⟨i + 1, by omega, by rw [HKS.out, if_neg HT.out]; try (first | rfl | (congr 1; omega)), rfl, HO2.out, HQ2.out, HR2.out, HK2.out, HBW2.out⟩
        by_cases c2 : q + bl ≤ 512 * i
        · clear ht
          go_wp2
          go_roundg (gk - 1)
          case measure => omega
          case rel => exact ⟨i + 1, by omega, by rw [HKS.out, if_neg HT.out]; try (first | rfl | (congr 1; omega)), rfl, HO2.out, HQ2.out, HR2.out, HK2.out, HBW2.out⟩
        · have c3 : 512 * i + 512 ≤ q := by
            have : ¬ (q / 512 ≤ i ∧ i < (q + bl - 1) / 512 + 1) := fun h => ht ⟨by omega, h.1, h.2⟩
            omega
          clear ht
          go_wp2
          go_roundg (gk - 1)
          case measure => omega
          case rel => exact ⟨i + 1, by omega, by rw [HKS.out, if_neg HT.out]; try (first | rfl | (congr 1; omega)), rfl, HO2.out, HQ2.out, HR2.out, HK2.out, HBW2.out⟩
    · obtain rfl : i = 16 := by omega
      have HBW := Lib.hid hb
      clear ho hq hr hk hb
      go_wp2_with (go_at_call 7; refine (HLV.out _).mono ?_; rintro e w' ⟨rfl, hb9⟩; have HB9 := Lib.hid hb9; clear hb9)
      go_ret
      exact ⟨rfl, HBW.out.trans (HB9.out.mono HBW.out.size)⟩
end Go.Proofs.Ytbchageboghilaa
