/- Layer 4: a disk's state, and what reads it. -/
import Derived.Test.YtjedhemjojcekaaDiskLeaf
namespace Go.Proofs.Ytjedhemjojcekaa
open Go.RowKit
attribute [local go_sem ↓] Go.wp_at_zero Go.wp_at_succ

/-- Cells of a block that is none of those of S. -/
def Kept (w : World) (S : Nat → Prop) (A : Option Addr) (xs : List Value) : Prop :=
  ∃ b o cs t fr, A = some ⟨b, o, none⟩ ∧ ¬ S b ∧ w.heap[b]? = some (.cells cs t fr) ∧ ∀ j u, xs[j]? = some u → cs[o + j]? = some u
theorem Kept.step {w w' : World} {S S' T : Nat → Prop} {A : Option Addr} {xs : List Value} (h : Kept w S A xs) (hm : Mod T w w') (hT : ∀ k, T k → S k) (hS : ∀ k, S' k → S k ∨ w.heap.size ≤ k) : Kept w' S' A xs := by
  obtain ⟨b, o, cs, t, fr, rfl, hb, hh, hc⟩ := h
  refine ⟨b, o, cs, t, fr, rfl, fun h' => ?_, hm.keep hh (fun h' => hb (hT b h')), hc⟩
  rcases hS b h' with h1 | h1
  · exact hb h1
  · have := (Array.getElem?_eq_some_iff.1 hh).1
    omega
theorem Kept.cells {w : World} {S : Nat → Prop} {A : Option Addr} {xs : List Value} (h : Kept w S A xs) : Cells w w.heap.size A xs := fun _ => by
  obtain ⟨b, o, cs, t, fr, rfl, hb, hh, hc⟩ := h
  exact ⟨b, o, rfl, (Array.getElem?_eq_some_iff.1 hh).1, fun j u hj => by rw [cell_of_row _ _ _ _ _ _ hh]; exact hc j u hj⟩

/-- .. whose block is one of bytes. -/
def KeptB (w : World) (S : Nat → Prop) (A : Option Addr) (xs : List Value) : Prop :=
  ∃ b o cs fr, A = some ⟨b, o, none⟩ ∧ ¬ S b ∧ w.heap[b]? = some (.cells cs 5 fr) ∧ ∀ j u, xs[j]? = some u → cs[o + j]? = some u
theorem KeptB.kept {w : World} {S : Nat → Prop} {A : Option Addr} {xs : List Value} (h : KeptB w S A xs) : Kept w S A xs := by
  obtain ⟨b, o, cs, fr, h1, h2, h3, h4⟩ := h
  exact ⟨b, o, cs, _, fr, h1, h2, h3, h4⟩
theorem KeptB.step {w w' : World} {S S' T : Nat → Prop} {A : Option Addr} {xs : List Value} (h : KeptB w S A xs) (hm : Mod T w w') (hT : ∀ k, T k → S k) (hS : ∀ k, S' k → S k ∨ w.heap.size ≤ k) : KeptB w' S' A xs := by
  obtain ⟨b, o, cs, fr, rfl, hb, hh, hc⟩ := h
  refine ⟨b, o, cs, fr, rfl, fun h' => ?_, hm.keep hh (fun h' => hb (hT b h')), hc⟩
  rcases hS b h' with h1 | h1
  · exact hb h1
  · have := (Array.getElem?_eq_some_iff.1 hh).1
    omega

/-- A sector that waits: its place, its bytes, and where these lie. -/
structure Wt where
  place : Nat
  bytes : List UInt8
  A : Option Addr
  c : Nat
def wtCells (L : List Wt) : List Value := L.flatMap fun x => [.int .i64 (x.place : Int), .slice x.A 512 x.c]
theorem wtCells_append (L M : List Wt) : wtCells (L ++ M) = wtCells L ++ wtCells M := by simp [wtCells]
theorem wtCells_length (L : List Wt) : (wtCells L).length = 2 * L.length := by
  induction L with
  | nil => rfl
  | cons x L ih => simp [wtCells] at *; omega
theorem wtCells_get (L : List Wt) (i : Nat) (x : Wt) (h : L[i]? = some x) : (wtCells L)[2 * i]? = some (.int .i64 (x.place : Int)) ∧ (wtCells L)[2 * i + 1]? = some (.slice x.A 512 x.c) := by
  induction L generalizing i with
  | nil => simp at h
  | cons y L ih =>
    cases i with
    | zero => simp at h; subst h; exact ⟨rfl, rfl⟩
    | succ i =>
      simp at h
      obtain ⟨h1, h2⟩ := ih i h
      have e : wtCells (y :: L) = [.int .i64 (y.place : Int), .slice y.A 512 y.c] ++ wtCells L := rfl
      rw [e, List.getElem?_append_right (by simp; omega), List.getElem?_append_right (by simp; omega)]
      exact ⟨by rw [← h1]; congr 1, by rw [← h2]; congr 1⟩
def Wt.two (x : Wt) : Nat × List UInt8 := (x.place, x.bytes)

/-- A disk's blocks. -/
def dS (g : Nat) (v1 v2 v3 : Value) : Nat → Prop := orS (oneB g) (orS (ownS v1) (orS (ownS v2) (ownS v3)))
theorem dS_g (g : Nat) (v1 v2 v3 : Value) : dS g v1 v2 v3 g := .inl rfl
theorem dS_1 {g : Nat} {v1 v2 v3 : Value} : ∀ k, ownS v1 k → dS g v1 v2 v3 k := fun _ h => .inr (.inl h)
theorem dS_2 {g : Nat} {v1 v2 v3 : Value} : ∀ k, ownS v2 k → dS g v1 v2 v3 k := fun _ h => .inr (.inr (.inl h))
theorem dS_3 {g : Nat} {v1 v2 v3 : Value} : ∀ k, ownS v3 k → dS g v1 v2 v3 k := fun _ h => .inr (.inr (.inr h))

theorem own_ne2 {w : World} {base size size' n n' : Nat} {e t : TypeId} {v v' : Value} {xs ys : List Value} (h : w.ownsRow base e size v n xs) (h' : w.ownsRow base t size' v' n' ys) (hne : e ≠ t) : ∀ k, ownS v k → ¬ ownS v' k := by
  intro k hk
  rcases h.2 with ⟨rfl, _⟩ | ⟨g', cap, cur, rfl, _, hh, _⟩
  · cases hk
  · have : g' = k := by simpa [ownS, Value.ownBlock] using hk
    subst this
    exact own_ne h' hh (fun he => hne he.symm)

theorem own_cap4 {w : World} {base : Nat} {e : TypeId} {size : Nat} {A : Option Addr} {n c : Nat} {xs : List Value} (h : w.ownsRow base e size (.slice A n c) n xs) : n ≤ c := by
  rcases h.2 with ⟨h1, h2⟩ | ⟨g, cap, cur, h1, _, _, h3, _⟩
  · omega
  · injection h1 with _ _ h4
    omega
/-- A disk: its bytes, those that are safe, what waits. -/
structure DkL (w : World) (g base : Nat) (now safe : List UInt8) (L : List Wt) (A1 : Option Addr) (c1 : Nat) (A2 : Option Addr) (c2 : Nat) (A3 : Option Addr) (c3 : Nat) : Prop where
  blk : DkB w g (.slice A1 now.length c1) (.slice A2 safe.length c2) (.slice A3 L.length c3)
  o1 : OwnB w base 5 (.slice A1 now.length c1) now.length now
  o2 : OwnB w base 5 (.slice A2 safe.length c2) safe.length safe
  o3 : w.ownsRow base 58 2 (.slice A3 L.length c3) L.length (wtCells L)
  apart : ∀ k, ownS (.slice A1 now.length c1) k → ¬ ownS (.slice A2 safe.length c2) k
  kept : ∀ x ∈ L, KeptB w (dS g (.slice A1 now.length c1) (.slice A2 safe.length c2) (.slice A3 L.length c3)) x.A (byteCells x.bytes)
/-- .. whose blocks are those of S. -/
def DkS (w : World) (g base : Nat) (S : Nat → Prop) (now safe : List UInt8) (waits : List (Nat × List UInt8)) : Prop :=
  ∃ L A1 c1 A2 c2 A3 c3, DkL w g base now safe L A1 c1 A2 c2 A3 c3 ∧ L.map Wt.two = waits ∧ S = dS g (.slice A1 now.length c1) (.slice A2 safe.length c2) (.slice A3 L.length c3)
/-- What a disk's numbers keep. -/
structure Good (now safe : List UInt8) (waits : List (Nat × List UInt8)) : Prop where
  m1 : now.length % 512 = 0
  m2 : safe.length % 512 = 0
  le : safe.length ≤ now.length
  top : now.length ≤ 2097152
  wt : ∀ x ∈ waits, 512 * x.1 + 512 ≤ now.length ∧ x.2.length = 512

theorem DkL.ne1 {w : World} {g base : Nat} {now safe : List UInt8} {L : List Wt} {A1 A2 A3 : Option Addr} {c1 c2 c3 : Nat} (h : DkL w g base now safe L A1 c1 A2 c2 A3 c3) : ¬ ownS (.slice A1 now.length c1) g := own_ne h.o1 h.blk (by decide)
theorem DkL.ne2 {w : World} {g base : Nat} {now safe : List UInt8} {L : List Wt} {A1 A2 A3 : Option Addr} {c1 c2 c3 : Nat} (h : DkL w g base now safe L A1 c1 A2 c2 A3 c3) : ¬ ownS (.slice A2 safe.length c2) g := own_ne h.o2 h.blk (by decide)
theorem DkL.ne3 {w : World} {g base : Nat} {now safe : List UInt8} {L : List Wt} {A1 A2 A3 : Option Addr} {c1 c2 c3 : Nat} (h : DkL w g base now safe L A1 c1 A2 c2 A3 c3) : ¬ ownS (.slice A3 L.length c3) g := own_ne h.o3 h.blk (by decide)
theorem DkL.lt {w : World} {g base : Nat} {now safe : List UInt8} {L : List Wt} {A1 A2 A3 : Option Addr} {c1 c2 c3 : Nat} (h : DkL w g base now safe L A1 c1 A2 c2 A3 c3) : ∀ k, dS g (.slice A1 now.length c1) (.slice A2 safe.length c2) (.slice A3 L.length c3) k → k < w.heap.size := by
  intro k hk
  rcases hk with rfl | hk | hk | hk
  · exact h.blk.lt
  · exact own_lt h.o1 k hk
  · exact own_lt h.o2 k hk
  · exact own_lt h.o3 k hk
theorem DkS.lt {w : World} {g base : Nat} {S : Nat → Prop} {now safe : List UInt8} {waits : List (Nat × List UInt8)} (h : DkS w g base S now safe waits) : ∀ k, S k → k < w.heap.size := by
  obtain ⟨L, A1, c1, A2, c2, A3, c3, h, _, rfl⟩ := h
  exact h.lt
/-- What is none of its blocks changes: it stays. -/
theorem DkL.keep {w w' : World} {T : Nat → Prop} {g base : Nat} {now safe : List UInt8} {L : List Wt} {A1 A2 A3 : Option Addr} {c1 c2 c3 : Nat} (h : DkL w g base now safe L A1 c1 A2 c2 A3 c3) (hm : Mod T w w') (hT : ∀ k, T k → w.heap.size ≤ k) : DkL w' g base now safe L A1 c1 A2 c2 A3 c3 := by
  have hd : ∀ k, dS g (.slice A1 now.length c1) (.slice A2 safe.length c2) (.slice A3 L.length c3) k → ¬ T k := fun k hk ht => by
    have h1 := h.lt k hk
    have h2 := hT k ht
    omega
  refine ⟨hm.keep h.blk (hd g (dS_g ..)), own_keep h.o1 hm (fun k hk => hd k (dS_1 k hk)), own_keep h.o2 hm (fun k hk => hd k (dS_2 k hk)), own_keep h.o3 hm (fun k hk => hd k (dS_3 k hk)), h.apart, fun x hx => ?_⟩
  have hmN : Mod noB w w' := hm.fresh (fun k hk => .inr (hT k hk))
  exact (h.kept x hx).step hmN (fun k hk => hk.elim) (fun k hk => .inl hk)
theorem DkS.keep {w w' : World} {T : Nat → Prop} {g base : Nat} {S : Nat → Prop} {now safe : List UInt8} {waits : List (Nat × List UInt8)} (h : DkS w g base S now safe waits) (hm : Mod T w w') (hT : ∀ k, T k → w.heap.size ≤ k) : DkS w' g base S now safe waits := by
  obtain ⟨L, A1, c1, A2, c2, A3, c3, h, e1, rfl⟩ := h
  exact ⟨L, A1, c1, A2, c2, A3, c3, h.keep hm hT, e1, rfl⟩
theorem DkS.drewN {w : World} {g base : Nat} {S : Nat → Prop} {now safe : List UInt8} {waits : List (Nat × List UInt8)} (h : DkS w g base S now safe waits) (n : Nat) : DkS (w.drewN n) g base S now safe waits := h.keep (T := noB) ((Mod.refl _ w).drewN n) (fun _ hk => hk.elim)
/-- A disk that has just been made. -/
theorem DkS.new (w : World) (base : Nat) : DkS (w.alloc (.cells #[.slice none 0 0, .slice none 0 0, .slice none 0 0] 28)) w.heap.size base (oneB w.heap.size) [] [] [] :=
  ⟨[], none, 0, none, 0, none, 0, ⟨heap_alloc_new w _, World.ownsRow_nil _ _ _ _, World.ownsRow_nil _ _ _ _, World.ownsRow_nil _ _ _ _, fun _ h => (by cases h), fun _ h => (by cases h)⟩, rfl, by
    funext k
    apply propext
    constructor
    · exact fun h => .inl h
    · rintro (h | h | h | h)
      · exact h
      · cases h
      · cases h
      · cases h⟩
theorem Good.new : Good [] [] [] := ⟨rfl, rfl, Nat.le_refl _, by simp, fun _ h => by cases h⟩

theorem dsize_any (g base : Nat) (S : Nat → Prop) (now safe : List UInt8) (waits : List (Nat × List UInt8)) (w : World) (h : DkS w g base S now safe waits) (hm : now.length ≤ 2097152) :
    Calls Try.prog 9 #[.pointer (some ⟨g, 0, none⟩)] w fun e w' => e = .returned (.int .i64 ((now.length / 512 : Nat) : Int)) ∧ w = w' := by
  obtain ⟨L, A1, c1, A2, c2, A3, c3, h, _, rfl⟩ := h
  exact size4_any g A1 _ c1 _ _ w h.blk (by omega)
theorem dwaiting_any (g base : Nat) (S : Nat → Prop) (now safe : List UInt8) (waits : List (Nat × List UInt8)) (w : World) (h : DkS w g base S now safe waits) :
    Calls Try.prog 10 #[.pointer (some ⟨g, 0, none⟩)] w fun e w' => e = .returned (.int .i64 (waits.length : Int)) ∧ w = w' := by
  obtain ⟨L, A1, c1, A2, c2, A3, c3, h, rfl, rfl⟩ := h
  rw [List.length_map]
  exact waiting4_any g A3 _ c3 _ _ w h.blk

theorem byteInfo4 : (Try.prog.info? 5).map (fun i => (i.zero, i.size, i.bytes)) = some (some (.int .u8 0), 1, 1) := by kernel_rfl
theorem byteSize4 : (Try.prog.info? 5).map (·.size) = some 1 := by kernel_rfl
theorem make_bytes4 (n : Nat) (hn : n ≤ 281474976710656) (W : World) :
    (Instr.makeSlice 25 (.int .i64 (n : Int)) (.int .i64 (n : Int))).run Try.prog W = .ok (.slice (some ⟨W.heap.size, 0, none⟩) n n) (W.alloc (.cells (madeCells #[.int .u8 0] n) 5)) := by
  obtain ⟨i0, hi, hz0, hz1, hz2⟩ := info_parts byteInfo4
  have h := run_make (P := Try.prog) W 25 5 i0 (.int .u8 0) Try.underlying25 hi hz0 .i64 .i64 n n (by omega) (Int.le_refl _) (by rw [hz2]; omega) (by omega)
  simp only [Int.toNat_natCast, hz1, Nat.mul_one] at h
  exact h
theorem own_made4 (w : World) (base n : Nat) (hb : base ≤ w.heap.size) (hm : n ≤ maxLen) : OwnB (w.alloc (.cells (madeCells #[Value.int .u8 0] n) 5)) base 5 (.slice (some ⟨w.heap.size, 0, none⟩) n n) n (List.replicate n 0) := by
  refine own_of_row (cur := byteCells (List.replicate n 0)) ?_ hb (Nat.le_refl _) hm (by simp [byteCells]) (List.take_of_length_le (by simp [byteCells]))
  have e : madeCells #[Value.int .u8 0] n = (byteCells (List.replicate n 0)).toArray := by
    apply Array.toList_inj.1
    rw [toList_madeCells_one]
    simp [byteCells]
  rw [e]
  exact heap_alloc_new w _
theorem own_A {w : World} {base : Nat} {e : TypeId} {size : Nat} {A : Option Addr} {n c : Nat} {xs : List Value} (h : w.ownsRow base e size (.slice A n c) n xs) : (A = none ∧ n = 0 ∧ c = 0) ∨ ∃ b, A = some ⟨b, 0, none⟩ := by
  rcases h.2 with ⟨h1, h2⟩ | ⟨g, cap, cur, h1, _⟩
  · injection h1 with h1 h3 h4
    exact .inl ⟨h1, h2, h4⟩
  · injection h1 with h1
    exact .inr ⟨g, h1⟩
/-- A row from some place on. -/
theorem own_cut {w : World} {base : Nat} {e : TypeId} {b n c : Nat} {xs : List UInt8} (h : OwnB w base e (.slice (some ⟨b, 0, none⟩) n c) n xs) (q o : Nat) (ho : o = q) : Cells w w.heap.size (some ⟨b, o, none⟩) (byteCells (xs.drop q)) := fun _ => by
  subst ho
  obtain ⟨cur, hh, h1, h2, _, _, _, _, _⟩ := own_row h
  refine ⟨b, o, rfl, (Array.getElem?_eq_some_iff.1 hh).1, fun j u hj => ?_⟩
  rw [cell_of_row _ _ _ _ _ _ hh]
  have e1 : (byteCells xs)[o + j]? = some u := by
    rw [← hj]
    simp [byteCells]
  rw [← h2, List.getElem?_take] at e1
  split at e1
  · simpa using e1
  · cases e1

/-- What stands at a place, and zeros behind the end. -/
def readV (now : List UInt8) (p n : Nat) : List UInt8 := (now.drop p).take n ++ List.replicate (n - ((now.drop p).take n).length) 0
theorem readV_length (now : List UInt8) (p n : Nat) : (readV now p n).length = n := by
  have : ((now.drop p).take n).length ≤ n := by rw [List.length_take]; omega
  simp only [readV, List.length_append, List.length_replicate]
  omega
theorem readV_splice (now : List UInt8) (p n : Nat) : splice (byteCells (List.replicate n 0)) 0 (byteCells ((now.drop p).take n)) = byteCells (readV now p n) := by
  unfold splice readV
  rw [byteCells_append, byteCells_length, List.take_zero, List.nil_append, Nat.zero_add]
  congr 1
  simp [byteCells]

theorem bytes_take_len (X : List UInt8) (n : Nat) : byteCells (X.take n) = (byteCells X).take (byteCells (X.take n)).length := by
  rw [byteCells_length, List.length_take]
  unfold byteCells
  rw [← List.map_take]
  congr 1
  rcases Nat.le_total n X.length with h | h
  · rw [show min n X.length = n by omega]
  · rw [show min n X.length = X.length by omega, List.take_of_length_le h, List.take_of_length_le (Nat.le_refl _)]

set_option maxRecDepth 100000 in
set_option maxHeartbeats 1000000 in
theorem dread_any (g base : Nat) (S : Nat → Prop) (now safe : List UInt8) (waits : List (Nat × List UInt8)) (p n : Nat) (w : World) (h : DkS w g base S now safe waits) (hm : now.length ≤ 2097152) (hok : okW (p : Int) (n : Int) = true) :
    Calls Try.prog 16 #[.pointer (some ⟨g, 0, none⟩), .int .i64 (p : Int), .int .i64 (n : Int)] w fun e w' => ∃ A c, e = .returned (.tuple #[.slice A n c, .int .i64 0]) ∧ OwnB w' w.heap.size 5 (.slice A n c) n (readV now p n) ∧ Below w.heap.size w w' := by
  have hpn : p + n ≤ 2097152 := by simp [okW] at hok; omega
  have HW := Lib.hid (within_any p n w (by omega) (by omega) (by omega) (by omega))
  rw [hok] at HW
  clear hok
  obtain ⟨L, A1, c1, A2, c2, A3, c3, h, _, rfl⟩ := h
  obtain ⟨k0, _⟩ := h.blk.cells
  have hcap : now.length ≤ c1 := own_cap4 h.o1
  go_enter Try.func16, Try.ntmps16
  have hmk := make_bytes4 n (by omega)
  have HO1 := Lib.hid h.o1
  have HC0 := Lib.hid k0
  have HLT := Lib.hid (h.blk.lt)
  rename_i w0
  clear h k0
  go_wp2_with (go_at_call 26; refine HW.out.mono ?_; rintro e w' ⟨rfl, rfl⟩)
  have HM := Lib.hid (own_made4 w w.heap.size n (Nat.le_refl _) (by unfold maxLen; omega))
  have HA1 := Lib.hid (HO1.out.alloc (.cells (madeCells #[.int .u8 0] n) 5))
  have HB1 := Lib.hid ((Below.refl w.heap.size w).alloc (Nat.le_refl _) (.cells (madeCells #[.int .u8 0] n) 5))
  have hc1 : (w.alloc (.cells (madeCells #[.int .u8 0] n) 5)).cell? ⟨g, 0, none⟩ = some (.slice A1 now.length c1) := (World.cell?_alloc_lt w _ _ HLT.out).trans HC0.out
  generalize hgl : now.length = l at *
  generalize w.alloc (.cells (madeCells #[.int .u8 0] n) 5) = w1 at *
  generalize hBB : w.heap.size = B at *
  have HBB := Lib.hid hBB
  clear hmk hBB
  obtain ⟨q, hqd⟩ : ∃ q, q = min p l := ⟨_, rfl⟩
  have hq : (if l < p then (l : Int) else (p : Int)) = (q : Int) := by split <;> omega
  have HQ := Lib.hid hqd
  have hql : q ≤ l := by omega
  clear hqd
  have HCS : Hid ((byteCells ((now.drop p).take n)).length = Nat.min (l - q) n) := by
    show _ = min (l - q) n
    rw [byteCells_length, List.length_take, List.length_drop, hgl]
    have := HQ.out
    omega
  have HSP := Lib.hid (readV_splice now p n)
  have HGL := Lib.hid hgl
  have HFIT : Hid (0 + (byteCells ((now.drop p).take n)).length ≤ n) := by show _ ≤ _; rw [HCS.out]; show 0 + min (l - q) n ≤ n; omega
  have HDQ : Hid (now.drop p = now.drop q) := by
    show _ = _
    rcases Nat.le_total p l with h1 | h1
    · rw [show q = p by have := HQ.out; omega]
    · rw [List.drop_of_length_le (by omega), List.drop_of_length_le (by have := HQ.out; omega)]
  rcases own_A HA1.out with ⟨rfl, rfl, rfl⟩ | ⟨b, rfl⟩
  · obtain rfl : q = 0 := by omega
    have hq' : (if 0 < p then (0 : Int) else (p : Int)) = 0 := by split <;> omega
    go_still_tail 13, (by kernel_rfl)
    repeat still_step
    change wpList _ _ _ _ _ w1.drew
    refine wpList_copy_into w1.drew rfl (.tmp 19) (.tmp 31) 25 25 rfl HM.out.drew Try.underlying25 byteSize4 _ _ _ _ _ _ rfl rfl 0 (byteCells ((now.drop p).take n)) HCS.out (fun _ => ⟨B, rfl, rfl⟩) B [] (Cells.nil _ _ _) (by rw [List.take_nil]; exact List.eq_nil_of_length_eq_zero (by rw [HCS.out]; simp)) HFIT.out (byteCells_one _) ?_
    intro w2 hown hmod
    rw [HSP.out] at hown
    have HO2 := Lib.hid hown
    have HM2 := Lib.hid hmod
    clear hown hmod
    go_wp2
    all_goals
      go_ret2
      have hBB := HBB.out
      subst hBB
      exact ⟨_, _, rfl, HO2.out, HM2.out.below (HB1.out.drew) HB1.out.size (fun k hk => by simp [ownS, Value.ownBlock] at hk; omega)⟩
  · go_still_tail 13, (by kernel_rfl)
    repeat still_step
    change wpList _ _ _ _ _ w1.drew
    refine wpList_copy_into w1.drew rfl (.tmp 19) (.tmp 31) 25 25 rfl HM.out.drew Try.underlying25 byteSize4 _ _ _ _ _ _ rfl rfl 0 (byteCells ((now.drop p).take n)) HCS.out (fun _ => ⟨B, rfl, rfl⟩) w1.heap.size (byteCells (now.drop q)) ?_ ?_ HFIT.out (byteCells_one _) ?_
    · by_cases hcq : c1 = q
      · rw [if_pos hcq, List.drop_of_length_le (by have := HGL.out; omega)]
        exact Cells.nil _ _ _
      · rw [if_neg hcq]
        exact (own_cut HA1.out q q rfl).drew
    · rw [HDQ.out]
      exact bytes_take_len _ _
    intro w2 hown hmod
    rw [HSP.out] at hown
    have HO2 := Lib.hid hown
    have HM2 := Lib.hid hmod
    clear hown hmod
    go_wp2
    all_goals
      go_ret2
      have hBB := HBB.out
      subst hBB
      exact ⟨_, _, rfl, HO2.out, HM2.out.below (HB1.out.drew) HB1.out.size (fun k hk => by simp [ownS, Value.ownBlock] at hk; omega)⟩

/-- A read of what can't be there. -/
theorem dread_bad (g : Nat) (p n : Int) (w : World) (p0 : -9223372036854775808 ≤ p) (p1 : p ≤ 9223372036854775807) (n0 : -9223372036854775808 ≤ n) (n1 : n ≤ 9223372036854775807) (hok : okW p n = false) :
    Calls Try.prog 16 #[.pointer (some ⟨g, 0, none⟩), .int .i64 p, .int .i64 n] w fun e w' => e = .returned (.tuple #[.slice none 0 0, .int .i64 1]) ∧ w = w' := by
  have HW := Lib.hid (within_any p n w p0 p1 n0 n1)
  rw [hok] at HW
  clear hok p0 p1 n0 n1
  go_enter Try.func16, Try.ntmps16
  go_wp2_with (go_at_call 26; refine HW.out.mono ?_; rintro e w' ⟨rfl, rfl⟩)
  go_ret2
  exact ⟨rfl, rfl⟩

theorem ret_two {x y : Int} {v : Value} (h : x = y) : Ending.returned (.tuple #[.int .i64 x, v]) = .returned (.tuple #[.int .i64 y, v]) := by rw [h]
/-- The sectors that a write leads to. -/
def needV (l p n : Nat) : Nat := if n = 0 then l / 512 else max (l / 512) ((p + n - 1) / 512 + 1)

set_option maxRecDepth 100000 in
theorem need_any (g base : Nat) (S : Nat → Prop) (now safe : List UInt8) (waits : List (Nat × List UInt8)) (p n : Nat) (w : World) (h : DkS w g base S now safe waits) (hm : now.length ≤ 2097152) (hok : okW (p : Int) (n : Int) = true) :
    Calls Try.prog 18 #[.pointer (some ⟨g, 0, none⟩), .int .i64 (p : Int), .int .i64 (n : Int)] w fun e w' => e = .returned (.tuple #[.int .i64 ((needV now.length p n : Nat) : Int), .bool true]) ∧ w = w' := by
  have hpn : p + n ≤ 2097152 := by simp [okW] at hok; omega
  have HW := Lib.hid (within_any p n w (by omega) (by omega) (by omega) (by omega))
  rw [hok] at HW
  have HS := Lib.hid (dsize_any g base S now safe waits w h hm)
  clear hok h
  have HN : Hid (needV now.length p n = if n = 0 then now.length / 512 else max (now.length / 512) ((p + n - 1) / 512 + 1)) := rfl
  generalize needV now.length p n = z' at *
  generalize now.length / 512 = z at *
  by_cases h0 : n = 0
  · subst h0
    have HN0 : Hid (z' = z) := by have h := HN.out; show z' = z; simpa using h
    go_enter Try.func18, Try.ntmps18
    go_wp2_with (first | (go_at_call 26; refine HW.out.mono ?_; rintro e w' ⟨rfl, rfl⟩) | (go_at_call 9; refine HS.out.mono ?_; rintro e w' ⟨rfl, rfl⟩))
    go_ret2
    rw [HN0.out]
    exact ⟨rfl, rfl⟩
  · have HN0 : Hid (z' = max z ((p + n - 1) / 512 + 1)) := by have := HN.out; rwa [if_neg h0] at this
    go_enter Try.func18, Try.ntmps18
    go_wp2_with (first | (go_at_call 26; refine HW.out.mono ?_; rintro e w' ⟨rfl, rfl⟩) | (go_at_call 9; refine HS.out.mono ?_; rintro e w' ⟨rfl, rfl⟩))
    all_goals
      go_ret2
      exact ⟨ret_two (by rw [HN0.out]; omega), rfl⟩

theorem need_bad (g : Nat) (p n : Int) (w : World) (p0 : -9223372036854775808 ≤ p) (p1 : p ≤ 9223372036854775807) (n0 : -9223372036854775808 ≤ n) (n1 : n ≤ 9223372036854775807) (hok : okW p n = false) :
    Calls Try.prog 18 #[.pointer (some ⟨g, 0, none⟩), .int .i64 p, .int .i64 n] w fun e w' => e = .returned (.tuple #[.int .i64 0, .bool false]) ∧ w = w' := by
  have HW := Lib.hid (within_any p n w p0 p1 n0 n1)
  rw [hok] at HW
  clear hok p0 p1 n0 n1
  go_enter Try.func18, Try.ntmps18
  go_wp2_with (go_at_call 26; refine HW.out.mono ?_; rintro e w' ⟨rfl, rfl⟩)
  go_ret2
  exact ⟨rfl, rfl⟩
end Go.Proofs.Ytjedhemjojcekaa
