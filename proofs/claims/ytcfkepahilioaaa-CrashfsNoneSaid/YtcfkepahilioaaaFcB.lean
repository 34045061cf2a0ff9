/- Layer 6: a file system without files. -/
import Derived.Test.YtcfkepahilioaaaFcC
import Derived.Test.YtcfkepahilioaaaFcN
namespace Go.Proofs.Ytcfkepahilioaaa
open Go.RowKit Go.Maps

section
variable {w : World} {d : Nat} {X : FsX} {F : Nat → Prop} {bn bs : Option Nat} {Aw : Option Addr} {cw : Nat} {now safe : List Nt} {ws : List Ch}
set_option maxRecDepth 100000
set_option maxHeartbeats 1000000
theorem lookup6_nil (h : DirB w d X F none bs Aw cw now safe ws) (s : ByteArray) (hs : s.size ≤ maxLen) :
    Calls Try.prog 32 #[.pointer (some ⟨d, 1, none⟩), .string s] w fun e w' => e = .returned (.tuple #[.int .i64 0, .bool false]) ∧ w = w' := by
  obtain ⟨c0, c1, c2, f0, f1, f2⟩ := h.cells
  have hln := Maps.look_nil (P := Try.prog) (w := w) true strLaw Try.underlying66 (zeroI w) (WideMaps.keyOf_string_mk Try.underlying9 hs)
  clear h
  go_enter Try.func32, Try.ntmps32
  go_wp2
  go_ret2
  exact ⟨rfl, rfl⟩
theorem open6_nil (h : DirB w d X F none bs Aw cw now safe ws) (s : ByteArray) (hs : s.size ≤ maxLen) :
    Calls Try.prog 8 #[.pointer (some ⟨d, 0, none⟩), .string s] w fun e w' => e = .returned (.tuple #[.int .i64 0, .int .i64 7]) ∧ w = w' := by
  have HL := Lib.hid (lookup6_nil h s hs)
  clear h
  go_enter Try.func8, Try.ntmps8
  go_wp2_with (go_at_call 32; refine HL.out.mono ?_; rintro e w1 ⟨rfl, rfl⟩)
  go_ret2
  exact ⟨rfl, rfl⟩
theorem file6_none (h : DirB w d X F bn bs Aw cw now safe ws) (A : Option Addr) (c : Nat) (hdk : X.dk = .slice A 0 c) (i : Int) :
    Calls Try.prog 33 #[.pointer (some ⟨d, 0, none⟩), .int .i64 i] w fun e w' => e = .returned (.pointer none) ∧ w = w' := by
  have c0 := h.all.1
  rw [hdk] at c0
  clear h
  by_cases hi : i < 0
  · have hd : decide (i < 0) = true := decide_eq_true hi
    go_enter Try.func33, Try.ntmps33
    go_wp2
    go_ret
    exact ⟨rfl, rfl⟩
  · have hd : decide (i < 0) = false := decide_eq_false hi
    have hd2 : decide (0 ≤ i) = true := decide_eq_true (by omega)
    have hi2 : 0 ≤ i := by omega
    go_enter Try.func33, Try.ntmps33
    go_wp2
    go_ret
    exact ⟨rfl, rfl⟩
theorem read6_none (h : DirB w d X F bn bs Aw cw now safe ws) (A : Option Addr) (c : Nat) (hdk : X.dk = .slice A 0 c) (i a n : Int) :
    Calls Try.prog 9 #[.pointer (some ⟨d, 0, none⟩), .int .i64 i, .int .i64 a, .int .i64 n] w fun e w' => e = .returned (.tuple #[.slice none 0 0, .int .i64 1]) ∧ w = w' := by
  have HF := Lib.hid (file6_none h A c hdk i)
  clear h
  go_enter Try.func9, Try.ntmps9
  go_wp2_with ((first
    | (go_at_call 33; refine HF.out.mono ?_; rintro e w1 ⟨rfl, rfl⟩)
    | (go_at_call 34; refine (dread_nil a n w).mono ?_; rintro e w1 ⟨rfl, rfl⟩)))
  go_ret2
  exact ⟨rfl, rfl⟩
theorem size6_none (h : DirB w d X F bn bs Aw cw now safe ws) (A : Option Addr) (c : Nat) (hdk : X.dk = .slice A 0 c) (i : Int) :
    Calls Try.prog 16 #[.pointer (some ⟨d, 0, none⟩), .int .i64 i] w fun e w' => e = .returned (.int .i64 0) ∧ w = w' := by
  have HF := Lib.hid (file6_none h A c hdk i)
  clear h
  go_enter Try.func16, Try.ntmps16
  go_wp2_with ((first
    | (go_at_call 33; refine HF.out.mono ?_; rintro e w1 ⟨rfl, rfl⟩)
    | (go_at_call 37; refine (dsize_nil w).mono ?_; rintro e w1 ⟨rfl, rfl⟩)))
  go_ret
  exact ⟨rfl, rfl⟩
theorem used6_none (h : DirB w d X F bn bs Aw cw now safe ws) (A : Option Addr) (c : Nat) (hdk : X.dk = .slice A 0 c) :
    Calls Try.prog 17 #[.pointer (some ⟨d, 0, none⟩)] w fun e w' => e = .returned (.int .i64 0) ∧ w = w' := by
  have c0 := h.all.1
  rw [hdk] at c0
  clear h
  go_enter Try.func17, Try.ntmps17
  go_wp2
  go_loopg [3, 13] 0 (fun _ e i wr => e = .int .i64 0 ∧ i = .int .i64 0 ∧ w = wr)
  case atStart => exact ⟨rfl, rfl, rfl⟩
  case round =>
    obtain ⟨rfl, rfl, rfl⟩ := hrel
    go_wp2
    go_ret
    exact ⟨rfl, rfl⟩
theorem write6_none (h : DirB w d X F bn bs Aw cw now safe ws) (A : Option Addr) (c : Nat) (hdk : X.dk = .slice A 0 c) (Ar : Option Addr) (cr : Nat) (hrs : X.rs = .slice Ar 0 cr) (n : Int) (hn : 0 ≤ n ∧ n ≤ 1000000) (hal : X.al = .int .i64 n) (i a : Int) :
    Calls Try.prog 11 #[.pointer (some ⟨d, 0, none⟩), .int .i64 i, .int .i64 a, .slice none 0 0] w fun e w' => e = .returned (.int .i64 1) ∧ DirB w' d { X with al := .int .i64 (n + 1) } F bn bs Aw cw now safe ws ∧ Mod (oneB d) w w' := by
  have HC := Lib.hid (call6_none h n hn hal Ar cr hrs)
  clear h
  go_enter Try.func11, Try.ntmps11
  go_wp2_with ((first
    | (go_at_call 30; refine HC.out.mono ?_; rintro e w1 ⟨rfl, hd1, hm1⟩; have HD1 := Lib.hid hd1; have HM1 := Lib.hid hm1; clear hd1 hm1)
    | (go_at_call 33; refine (file6_none HD1.out A c hdk i).mono ?_; rintro e w2 ⟨rfl, rfl⟩)
    | (go_at_call 35; refine (dneed_nil a 0 w1).mono ?_; rintro e w2 ⟨rfl, rfl⟩)))
  go_ret
  exact ⟨rfl, HD1.out, HM1.out⟩
theorem sync6_none (h : DirB w d X F bn bs Aw cw now safe ws) (A : Option Addr) (c : Nat) (hdk : X.dk = .slice A 0 c) (Ar : Option Addr) (cr : Nat) (hrs : X.rs = .slice Ar 0 cr) (n : Int) (hn : 0 ≤ n ∧ n ≤ 1000000) (hal : X.al = .int .i64 n) (i : Int) :
    Calls Try.prog 12 #[.pointer (some ⟨d, 0, none⟩), .int .i64 i] w fun e w' => e = .returned (.int .i64 1) ∧ DirB w' d { X with al := .int .i64 (n + 1) } F bn bs Aw cw now safe ws ∧ Mod (oneB d) w w' := by
  have HC := Lib.hid (call6_none h n hn hal Ar cr hrs)
  clear h
  go_enter Try.func12, Try.ntmps12
  go_wp2_with ((first
    | (go_at_call 30; refine HC.out.mono ?_; rintro e w1 ⟨rfl, hd1, hm1⟩; have HD1 := Lib.hid hd1; have HM1 := Lib.hid hm1; clear hd1 hm1)
    | (go_at_call 33; refine (file6_none HD1.out A c hdk i).mono ?_; rintro e w2 ⟨rfl, rfl⟩)))
  go_ret
  exact ⟨rfl, HD1.out, HM1.out⟩
theorem calls6_any (h : DirB w d X F bn bs Aw cw now safe ws) (a r : Int) (hal : X.al = .int .i64 a) (hrd : X.rd = .int .i64 r) :
    Calls Try.prog 10 #[.pointer (some ⟨d, 0, none⟩)] w fun e w' => e = .returned (.tuple #[.int .i64 a, .int .i64 r]) ∧ Below w.heap.size w w' := by
  obtain ⟨_, _, c5, c6, _, _⟩ := h.all
  rw [hal] at c5
  rw [hrd] at c6
  clear h
  go_enter Try.func10, Try.ntmps10
  go_wp2
  go_region
  all_goals
    go_wp2
    go_ret2
  all_goals exact ⟨rfl, by first | exact (Below.refl _ w).drew | exact Below.drewN (Below.refl _ w) _⟩
end
/-- A file system that was just made. -/
def freshX (cp : Int) : FsX := ⟨.slice none 0 0, .int .i64 cp, .int .i64 0, .int .i64 0, .slice none 0 0⟩
theorem fresh_dir (w : World) (cp : Int) : DirB (w.alloc (.cells (fsC (freshX cp) none none none 0 0) 71)) w.heap.size (freshX cp) (oneB w.heap.size) none none none 0 [] [] [] :=
  ⟨heap_alloc_new w _, .inl ⟨rfl, rfl⟩, .inl ⟨rfl, rfl⟩, World.ownsRow_nil .., rfl, fun _ h => (by cases h), fun _ h => (by cases h), fun _ h => (by cases h), fun _ h => (by cases h), fun k hk => by have : k = w.heap.size := hk; simp; omega⟩
set_option maxRecDepth 100000 in
theorem fsnew (c : Int) (w : World) : Calls Try.prog 20 #[.int .i64 c] w fun e w' => e = .returned (.pointer (some ⟨w.heap.size, 0, none⟩)) ∧ ∃ cp, DirB w' w.heap.size (freshX cp) (oneB w.heap.size) none none none 0 [] [] [] ∧ Below w.heap.size w w' := by
  have HD := Lib.hid (fun cp => fresh_dir w cp)
  have HB : Hid (∀ cp, Below w.heap.size w (w.alloc (.cells (fsC (freshX cp) none none none 0 0) 71))) := fun cp => (Below.refl _ w).alloc (Nat.le_refl _) _
  go_enter Try.func20, Try.ntmps20
  go_wp2
  go_ret
  exact ⟨rfl, _, HD.out _, HB.out _⟩
end Go.Proofs.Ytcfkepahilioaaa
