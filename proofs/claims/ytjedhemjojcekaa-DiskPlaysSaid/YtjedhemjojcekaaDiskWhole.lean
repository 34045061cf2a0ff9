/- Law DiskWhole. -/
import Derived.Test.YtjedhemjojcekaaDiskPlain
import Derived.Test.YtjedhemjojcekaaLists
import Derived.BigQuiet
namespace Go.Proofs.Ytjedhemjojcekaa
open Go.RowKit
attribute [local go_sem ↓] Go.wp_at_zero Go.wp_at_succ

theorem kept_of_cells {w : World} {B : Nat} {A : Option Addr} {xs : List Value} {S : Nat → Prop} (h : Cells w B A xs) (hS : ∀ k, S k → B ≤ k) (h0 : 0 < xs.length) : Kept w S A xs := by
  obtain ⟨b, o, rfl, hb, hc⟩ := h h0
  have h1 := hc 0 xs[0] (List.getElem?_eq_getElem h0)
  have key : ∃ cs t fr, w.heap[b]? = some (.cells cs t fr) := by
    unfold World.cell? at h1
    split at h1
    · rename_i cs t fr hh
      exact ⟨cs, t, fr, hh⟩
    all_goals cases h1
  obtain ⟨cs, t, fr, hh⟩ := key
  refine ⟨b, o, cs, t, fr, rfl, fun hs => by have := hS b hs; omega, hh, fun j u hj => ?_⟩
  have := hc j u hj
  rwa [cell_of_row _ _ _ _ _ _ hh] at this

theorem below_drewN' {B : Nat} {w w' : World} (h : Below B w w') (n : Nat) : Below B w (w'.drewN n) := ⟨h.os, h.tape, h.output, h.size, h.block⟩

theorem wpList_append_zeros {P : Program} (w : World) {ops : Array Oper} {rest : List Oper} {o : Oper} {a : Act} {Q : Exit → Act → World → Prop} {t e : TypeId} {z : Value} {bytes : Nat} (E : Elem P t e z 1 bytes) (tn : TypeId) (kn : IntKind) (htn : P.underlying tn = some (.int kn)) (hz1 : (z.cells[0]!).oneCell' = true)
    (hgd : o.guard = none) (s x : Operand) (ho : o.op = .call { callee := .builtin .append, args := #[s, x], argTypes := #[t, tn] }) (base : Nat)
    (v : Value) (n : Nat) (xs : List Value) (hs : a.eval s = v) (hown : w.ownsRow base e 1 v n xs) (kq : IntKind) (k : Nat) (ki : Int) (hki : ki = (k : Int)) (hx : a.eval x = .int kq ki)
    (h63 : n + k ≤ maxLen) (hbytes : (n + k) * bytes ≤ 140737488355328) (hbase : base ≤ w.heap.size)
    (h : ∀ A' c' w', App w base e 1 v (n + k) (xs ++ List.replicate k (z.cells[0]!)) w' (.slice A' (n + k) c') → wpList P ops Q rest (a.put o.dst (.slice A' (n + k) c')) w') : wpList P ops Q (o :: rest) a w := by
  refine wpList_plain hgd fun K hK => ?_
  subst hki
  obtain ⟨A', c', w', hr, h2⟩ := run_append_zeros (P := P) w E tn kn htn hz1 base o.type v n xs hown kq k h63 hbytes hbase
  unfold Oper.wp execOp
  simp only [ho, resolve, invoke, builtin, Sem.run_bind, Sem.run_pure, Result.andThen_ok, List.map_toArray, List.map_cons, List.map_nil, hs, hx, hr]
  exact hK _ _ (h A' c' w' h2)

/-- Is a sector one of those that a write touches? -/
def touches (p n i : Nat) : Prop := 0 < n ∧ p / 512 ≤ i ∧ i < (p + n - 1) / 512 + 1
instance (p n i : Nat) : Decidable (touches p n i) := by unfold touches; infer_instance
/-- A write into a disk all of which is safe, and what a crash leaves of it. -/
theorem whole_write (g base : Nat) (S : Nat → Prop) (N1 : List UInt8) (A : Option Addr) (n c p : Nat) (bs : List UInt8) (w : World) (h : DkS w g base S N1 N1 []) (hl : N1.length = 8192) (hbase : base ≤ w.heap.size) (hn : bs.length = n) (hp : p ≤ 3000) (hn2 : n ≤ 3000)
    (hk : 0 < n → Kept w S A (byteCells bs)) :
    Calls Try.prog 8 #[.pointer (some ⟨g, 0, none⟩), .int .i64 (p : Int), .slice A n c] w fun e w' => e = .returned (.int .i64 0) ∧ ∃ S' N2 W2, DkS w' g base S' N2 N1 W2 ∧ Mod S w w' ∧ (∀ k, S' k → S k ∨ w.heap.size ≤ k) ∧ Good N2 N1 W2 ∧ W2.length ≤ 1099511627776 ∧ N2.length = 8192 ∧
      ∀ ks i, secAt i (crashNow N2 N1 W2 ks 9) = if touches p n i ∧ ks[i - p / 512]? = some true then secAt i N2 else secAt i N1 := by
  have hok : okW (p : Int) (n : Int) = true := by simp [okW]; omega
  have hg : Good N1 N1 [] := ⟨by omega, by omega, Nat.le_refl _, by omega, fun _ hx => by cases hx⟩
  rcases Nat.eq_zero_or_pos n with h0 | h0
  · subst h0
    refine (write_none g base S N1 N1 [] A c p w h (by omega) hok).mono ?_
    rintro e w' ⟨rfl, rfl⟩
    refine ⟨rfl, S, N1, [], h, Mod.refl _ _, fun _ hk => .inl hk, hg, by simp, hl, fun ks i => ?_⟩
    rw [crash_none, if_neg (fun h => by have := h.1.1; omega)]
  · refine (write_any g base S N1 N1 [] A n c p bs w h hg hbase (by simp) hn h0 (hk h0) hok).mono ?_
    rintro e w' ⟨rfl, S', hd, hm, hpl⟩
    have hg2 := hg.write (p := p) (bs := bs) (by omega) (by omega)
    rw [List.nil_append] at hd hg2
    refine ⟨rfl, S', _, _, hd, hm, hpl, hg2, ?_, ?_, fun ks i => ?_⟩
    · unfold writeWt
      rw [secs_length]
      omega
    · rw [write_within N1 bs p (by omega) (by omega) (by omega)]; exact hl
    · rw [crash_sec N1 bs p 9 ks (by omega) (by omega) (by omega)]
      unfold touches
      rw [hn]
      by_cases h1 : p / 512 ≤ i ∧ i < (p + n - 1) / 512 + 1 ∧ ks[i - p / 512]? = some true
      · rw [if_pos h1, if_pos ⟨⟨h0, h1.1, h1.2.1⟩, h1.2.2⟩]
      · rw [if_neg h1, if_neg (fun h2 => h1 ⟨h2.1.2.1, h2.1.2.2, h2.2⟩)]

/-- How many sectors before one are touched. -/
def kcnt (p n i : Nat) : Nat := if n = 0 then 0 else min i ((p + n - 1) / 512 + 1) - min i (p / 512)
theorem kcnt_at {p n i : Nat} (h : touches p n i) : kcnt p n i = i - p / 512 := by
  obtain ⟨h1, h2, h3⟩ := h
  unfold kcnt
  rw [if_neg (by omega)]
  omega
theorem kcnt_succ (p n i : Nat) : kcnt p n (i + 1) = if touches p n i then kcnt p n i + 1 else kcnt p n i := by
  by_cases ht : touches p n i
  · rw [if_pos ht]
    obtain ⟨h1, h2, h3⟩ := ht
    unfold kcnt
    rw [if_neg (by omega), if_neg (by omega)]
    omega
  · rw [if_neg ht]
    unfold kcnt
    by_cases h0 : n = 0
    · rw [if_pos h0, if_pos h0]
    · rw [if_neg h0, if_neg h0]
      have : ¬ (p / 512 ≤ i ∧ i < (p + n - 1) / 512 + 1) := fun h => ht ⟨by omega, h.1, h.2⟩
      omega
theorem kcnt_le (p n i : Nat) : kcnt p n i ≤ i := by
  unfold kcnt
  split <;> omega
theorem cut_str {w : World} {B b o c l : Nat} {X : List UInt8} (h : Bytes w B (some ⟨b, 0, none⟩) X) (i : Nat) (hX : 512 * i + 512 ≤ X.length) (ho : o = 512 * i) (hl : l = 512) (n : Nat) :
    (convert 25 9 (.slice (some ⟨b, o, none⟩) l c)).run Try.prog (w.drewN n) = .ok (.string ⟨(secAt i X).toArray⟩) (w.drewN n) := by
  subst ho hl
  refine run_string_of (B := B) 25 9 5 Try.underlying25 Try.underlying5 Try.underlying9 ?_ (secAt_length hX)
  refine fun _ => ?_
  obtain ⟨b', o', e, hb, hc⟩ := h (by rw [byteCells_length]; omega)
  injection e with e
  injection e with e1 e2
  subst e1 e2
  refine ⟨b, 512 * i, rfl, hb, fun j u hj => ?_⟩
  have hj' : (byteCells X)[512 * i + j]? = some u := by
    simp only [byteCells, secAt, List.getElem?_map, List.getElem?_take, List.getElem?_drop] at hj ⊢
    split at hj
    · exact hj
    · cases hj
  have := hc (512 * i + j) u hj'
  rwa [Nat.zero_add] at this

end Go.Proofs.Ytjedhemjojcekaa
