/- The walk of BitsWrites. -/
import Derived.Test.YtlbjamnbbkaooaaBitsRef
import Derived.Test.YtlbjamnbbkaooaaBitsCut
import Derived.Test.YtlbjamnbbkaooaaLists
import Derived.Deep.RegionLaw
namespace Go.Proofs.Ytlbjamnbbkaooaa
open Go.RowKit BitsP
attribute [local go_sem ↓] Go.wp_at_zero Go.wp_at_succ

/-- A number, and how many bits of it. -/
structure BPart where
  n : Int
  bits : Int
def BPart.code (r : BPart) : List Value := [.int .u32 r.n, .int .i64 r.bits]
def BPart.good (r : BPart) : Prop := (0 ≤ r.n ∧ r.n < 4294967296) ∧ -9223372036854775808 ≤ r.bits ∧ r.bits ≤ 9223372036854775807
theorem parts_of_lies {w : World} {a : Option Addr} {len cap : Nat} (h : Lies w (.slice (.cons (.int .u32) (.cons (.int .i64) .nil))) [.slice a len cap]) :
    ∃ rs : List BPart, rs.length = len ∧ len ≤ 9223372036854775807 ∧ (∀ r ∈ rs, r.good) ∧ (∀ r ∈ rs, (r.code).length = 2) ∧ Cells w w.heap.size a (rs.map BPart.code).flatten :=
  rows_as BPart.code BPart.good h (fun x _ hx => by
    obtain ⟨c1, c2, rfl, _, _, ⟨k, rfl, hk⟩, ⟨c3, c4, rfl, _, _, ⟨n, rfl, hn⟩, rfl⟩⟩ := hx
    have := bounds_u32 hk
    exact ⟨⟨k, n⟩, rfl, ⟨by show 0 ≤ k; omega, by show k < 4294967296; omega⟩, bounds_i64 hn⟩)

theorem writes_big (A1 : Option Addr) (l1 c1 : Nat) (al : Int) (w : World) (h : 100 < l1) :
    Calls Try.prog 7 #[.slice A1 l1 c1, .int .u32 al] w fun e w' => e = .returned (.bool true) ∧ Below w.heap.size w w' := by
  have h2 : (100 : Int) < (l1 : Int) := by omega
  clear h
  go_enter Try.func7, Try.ntmps7
  go_wp2_with (go_at_call 22; refine (lives3_any _).mono ?_; rintro e w4 ⟨rfl, hb4⟩; have HB4 := Lib.hid hb4; clear hb4)
  go_ret
  exact ⟨rfl, HB4.out⟩

/-- The writer at g holds the bits L, the row v the bits M, in blocks of their own, from B on. -/
structure Both (w : World) (B g : Nat) (S : Nat → Prop) (v : Value) (L M : List Bool) : Prop where
  wr : WrS w g B S L
  row : OwnB w B 5 v M.length (bitBytes M)
  apart : ∀ k, S k → ¬ ownS v k
  from_ : ∀ k, S k → B ≤ k
section
variable {w w1 : World} {B g : Nat} {S S1 : Nat → Prop} {v v1 : Value} {L L1 M M1 : List Bool}
theorem Both.put (h : Both w B g S v L M) (hB : B ≤ w.heap.size) (hw : WrS w1 g B S1 L1) (hm : Mod S w w1) (hs : ∀ k, S1 k → S k ∨ w.heap.size ≤ k) : Both w1 B g S1 v L1 M :=
  ⟨hw, own_keep h.row hm (fun k hk hS => h.apart k hS hk), fun k hk hv => by
    rcases hs k hk with h1 | h1
    · exact h.apart k h1 hv
    · have := own_lt h.row k hv
      omega, fun k hk => by
    rcases hs k hk with h1 | h1
    · exact h.from_ k h1
    · omega⟩
theorem Both.below_ (h : Both w B g S v L M) (hb : Below w.heap.size w w1) : Both w1 B g S v L M :=
  ⟨h.wr.keep (Mod.of_below hb) (fun _ _ h => h), own_keep h.row (Mod.of_below hb) (fun _ _ h => h), h.apart, h.from_⟩
theorem Both.grow (h : Both w B g S v L M) (ha : App w B 5 1 v M1.length (byteCells (bitBytes M1)) w1 v1) : Both w1 B g S v1 L M1 :=
  ⟨h.wr.keep (Mod.of_app ha) (fun k hk hv => h.apart k hk hv), ha.own, fun k hk hv => by
    rcases ha.place k hv with h1 | h1
    · exact h.apart k hk h1
    · have := h.wr.lt k hk
      omega, h.from_⟩
theorem Both.drew (h : Both w B g S v L M) : Both w.drew B g S v L M := ⟨h.wr, h.row, h.apart, h.from_⟩
theorem Both.drewN (h : Both w B g S v L M) (n : Nat) : Both (w.drewN n) B g S v L M := ⟨h.wr, h.row, h.apart, h.from_⟩
end
theorem below_drewN {B : Nat} {a w : World} (h : Below B a w) (n : Nat) : Below B a (w.drewN n) := ⟨h.os, h.tape, h.output, h.size, h.block⟩

set_option maxRecDepth 100000 in
set_option maxHeartbeats 2000000 in
theorem writes_walk (Y : Option Addr) (l1 cY : Nat) (al : Int) (rs : List BPart) (w : World) (hl1 : rs.length = l1) (hm1 : l1 ≤ 100) (al0 : 0 ≤ al) (al1 : al < 4294967296)
    (hg : ∀ r ∈ rs, r.good) (hs : ∀ r ∈ rs, (r.code).length = 2) (hb1 : Cells w w.heap.size Y (rs.map BPart.code).flatten) :
    Calls Try.prog 7 #[.slice Y l1 cY, .int .u32 al] w fun e w' => e = .returned (.bool true) ∧ Below w.heap.size w w' := by
  have HL1 := Lib.hid hl1
  have HG := Lib.hid hg
  have HS := Lib.hid hs
  have HB1 : Hid (Cells w w.heap.size Y (rs.map BPart.code).flatten) := hb1
  clear hl1 hg hs hb1
  have hbi2 : ¬ (100 : Int) < (l1 : Int) := by omega
  go_enter Try.func7, Try.ntmps7
  go_wp2
  have HW0 := Lib.hid (WrS.zero (w := w.alloc (.cells zeroWr 47)) w.heap.size (heap_alloc_new w _))
  have HBEL0 := Lib.hid ((Below.refl w.heap.size w).alloc (Nat.le_refl _) (.cells zeroWr 47))
  go_loopg [1, 7, 8] l1 (fun gk av v i wr => ∃ (k : Nat) (a : Int) (L : List Bool) (S : Nat → Prop), k + gk = l1 ∧ i = .int .i64 k ∧ av = .int .u32 a ∧ 0 ≤ a ∧ a < 4294967296 ∧ L.length ≤ 40 * k ∧ Both wr w.heap.size w.heap.size S v L L ∧ Below w.heap.size w wr)
  case atStart => exact ⟨0, al, [], oneB w.heap.size, by omega, rfl, rfl, al0, al1, by simp, ⟨HW0.out, World.ownsRow_nil _ _ _ _, fun k _ => ownS_nil k, fun k hk => by cases hk; exact Nat.le_refl _⟩, HBEL0.out⟩
  case round =>
    obtain ⟨k, a, L, S, hk, rfl, rfl, a0, a1, hLl, hboth, hbel⟩ := hrel
    have HBOTH := Lib.hid hboth
    have HBEL := Lib.hid hbel
    clear hboth hbel HW0 HBEL0
    obtain ⟨A, c, rfl⟩ := own_form HBOTH.out.row
    by_cases hkl : k < l1
    · obtain ⟨x, hxi⟩ := get_lt (bs := rs) (k := k) (by rw [HL1.out]; exact hkl)
      obtain ⟨⟨n0, n1⟩, b0, b1⟩ := HG.out x (List.mem_of_getElem? hxi)
      have hpos : 0 < ((rs.map BPart.code).flatten).length := (List.getElem?_eq_some_iff.1 (code_at (s := 2) (j := 0) HS.out hxi rfl)).1 |> fun h => by omega
      have HC0 := Lib.hid (code_at (s := 2) (j := 0) HS.out hxi rfl)
      have HC1 := Lib.hid (code_at (s := 2) (j := 1) HS.out hxi rfl)
      obtain ⟨n, b⟩ := x
      dsimp only at n0 n1 b0 b1
      clear hxi
      obtain ⟨b₁, o₁, rfl, hbB, hcell⟩ := HB1.out hpos
      have HCELL : Hid (∀ W, Below w.heap.size w W → W.cell? ⟨b₁, o₁ + k * 2, none⟩ = some (.int .u32 n) ∧ W.cell? ⟨b₁, o₁ + k * 2 + 1, none⟩ = some (.int .i64 b)) := fun W hW =>
        ⟨(hW.cell (p := ⟨b₁, o₁ + k * 2, none⟩) hbB).trans (hcell _ _ HC0.out), (hW.cell (p := ⟨b₁, o₁ + k * 2 + 1, none⟩) hbB).trans (hcell _ _ HC1.out)⟩
      clear hcell HC0 HC1
      have HPUT := Lib.hid (fun S L W (h : WrS W w.heap.size w.heap.size S L) hl hb => wput_any w.heap.size w.heap.size S L n b W h hl hb n0 n1 b0 b1)
      have HREF := Lib.hid (fun W => refRow_any n b W n0 n1 b0 b1)
      have HQ : Hid (cnt b ≤ 32 ∧ (bitsOf n.toNat (cnt b)).length = cnt b) := ⟨cnt_le b, bitsOf_length _ _⟩
      clear n0 n1 b0 b1
      generalize cnt b = q at *
      generalize bitsOf n.toNat q = NB at *
      obtain ⟨hq32, rfl⟩ := HQ.out
      clear HQ
      by_cases hal : a % 2 = 1
      · have ht : (a % 2 == 1) = true := by simp [hal]
        have hlk : lack L.length < 8 := Nat.mod_lt _ (by omega)
        have HLA : Hid ((L ++ zeros (lack L.length)).length = L.length + lack L.length) := by show _ = _; rw [List.length_append]; unfold zeros; rw [List.length_replicate]
        clear hal
        go_wp2_with fail
        refine (walign_any w.heap.size w.heap.size S L wr HBOTH.out.wr (by omega) HBEL.out.size).mono ?_
        rintro e w1 ⟨rfl, S1, hw, hm, hs⟩
        have HBOTH1 := Lib.hid (HBOTH.out.put HBEL.out.size hw hm hs)
        have HBEL1 := Lib.hid (hm.below HBEL.out HBEL.out.size HBOTH.out.from_)
        clear hw hm hs HBOTH HBEL
        go_wp2_with fail
        refine (walign_nil _).mono ?_
        rintro e w' ⟨rfl, rfl⟩
        go_wp2_with fail
        refine (refFill_any _ L w.heap.size w1 (by omega) HBEL1.out.size HBOTH1.out.row).mono ?_
        rintro e w2 ⟨v', rfl, happ⟩
        have HBOTH2 := Lib.hid (HBOTH1.out.grow happ)
        have HBEL2 := Lib.hid (happ.below HBEL1.out HBEL1.out.size (own_base HBOTH1.out.row))
        obtain ⟨A2, c2, rfl⟩ := happ.form
        have hL2 : (L ++ zeros (lack L.length)).length ≤ 40 * k + 7 := by rw [HLA.out]; omega
        clear happ HBOTH1 HBEL1 HLA hlk hLl
        generalize L ++ zeros (lack L.length) = L2 at *
        obtain ⟨hc0, hc1⟩ := HCELL.out _ HBEL2.out
        go_wp2_with fail
        go_still_tail 10, (by kernel_rfl)
        change wpList _ _ _ _ _ w2.drew
        have HBOTH3 := Lib.hid HBOTH2.out.drew
        have HBEL3 := Lib.hid HBEL2.out.drew
        clear HBOTH2 HBEL2 hc0 hc1
        generalize w2.drew = w3 at *
        go_wp2_with fail
        refine (HPUT.out S1 L2 w3 HBOTH3.out.wr (by omega) HBEL3.out.size).mono ?_
        rintro e w4 ⟨rfl, S4, hw, hm, hs⟩
        have HBOTH4 := Lib.hid (HBOTH3.out.put HBEL3.out.size hw hm hs)
        have HBEL4 := Lib.hid (hm.below HBEL3.out HBEL3.out.size HBOTH3.out.from_)
        clear hw hm hs HBOTH3 HBEL3
        obtain ⟨hc0, hc1⟩ := HCELL.out _ HBEL4.out
        go_wp2_with fail
        go_still_tail 11, (by kernel_rfl)
        change wpList _ _ _ _ _ w4.drew
        have HBOTH5 := Lib.hid HBOTH4.out.drew
        have HBEL5 := Lib.hid HBEL4.out.drew
        clear HBOTH4 HBEL4 hc0 hc1
        generalize w4.drew = w5 at *
        go_wp2_with fail
        refine (wput_nil _ _ _).mono ?_
        rintro e w' ⟨rfl, rfl⟩
        go_wp2_with fail
        have S5 := HCELL.out _ HBEL5.out
        go_region_held3 (fun W => W.cell? ⟨b₁, o₁ + k * 2, none⟩ = some (.int .u32 n) ∧ W.cell? ⟨b₁, o₁ + k * 2 + 1, none⟩ = some (.int .i64 b)) (first | exact S5 | exact S6 | exact S7)
          ((first
          | (go_at_call 26; refine (HREF.out _).mono ?_; rintro e w6 ⟨A6, c6, rfl, hown, hbel⟩; have HO6 := Lib.hid (Cells.of_own hown); have HBOTH6 := Lib.hid (HBOTH5.out.drew.below_ hbel); have HBEL6 := Lib.hid (HBEL5.out.drew.trans (hbel.mono HBEL5.out.size)); clear hown hbel; have S6 := HCELL.out _ HBEL6.out)
          | (refine step_app _ byteElem3 (by rfl) (.tmp 52) (.tmp 63) (by rfl) w.heap.size (.slice A2 L2.length c2) L2.length (byteCells (bitBytes L2)) (by rfl) HBOTH6.out.row w6.heap.size A6 NB.length c6 (byteCells (bitBytes NB)) (by rfl) (by rw [byteCells_length, bitBytes_length, Nat.mul_one]) HO6.out (byteCells_one _) (by unfold maxLen; omega) (by omega) HBEL6.out.size ?_; intro A7 c7 w7 hA; have HA := Lib.hid hA; clear hA; have HBEL7 := Lib.hid (HA.out.below HBEL6.out HBEL6.out.size (own_base HBOTH6.out.row)); have S7 := HCELL.out _ HBEL7.out)))
        have happ : App w6 w.heap.size 5 1 (.slice A2 L2.length c2) (L2 ++ NB).length (byteCells (bitBytes (L2 ++ NB))) w7 (.slice A7 (L2.length + NB.length) c7) := by
          rw [List.length_append, bitBytes_append, byteCells_append]
          exact HA.out
        have HBOTH7 := Lib.hid (HBOTH6.out.grow happ)
        have hl3 : (L2 ++ NB).length ≤ 40 * (k + 1) := by rw [List.length_append]; omega
        have HLN := Lib.hid (show (L2 ++ NB).length = L2.length + NB.length from List.length_append)
        rw [← HLN.out] at HBOTH7 ⊢
        clear happ HA HBOTH6 HBEL6 HO6 HBOTH5 HBEL5 S5 S6 S7 HLN
        generalize L2 ++ NB = L3 at *
        go_wp2_with fail
        have HPL : Hid ((pack L3).length ≤ L3.length) := pack_length L3
        generalize hP : pack L3 = P at *
        generalize hS : (⟨P.toArray⟩ : ByteArray) = str at *
        have HP := Lib.hid hP
        have HSTR := Lib.hid hS
        clear hP hS
        go_region_with (first
          | (go_at_call 27; refine (wlen_any w.heap.size w.heap.size S4 L3 _ HBOTH7.out.drew.wr (by omega)).mono ?_; rintro e w' ⟨rfl, nd, rfl⟩)
          | (go_at_call 28; refine (wbytes_any w.heap.size w.heap.size S4 L3 _ (HBOTH7.out.drewN (1 + nd)).wr (by omega)).mono ?_; rintro e w8 ⟨A8, c8, rfl, hown, hbel⟩; rw [HP.out] at hown; rw [HP.out]; have HO8 := Lib.hid (Cells.of_own hown); have HBOTH8 := Lib.hid ((HBOTH7.out.drewN (1 + nd)).below_ hbel); have HBEL8 := Lib.hid ((below_drewN HBEL7.out (1 + nd)).trans (hbel.mono HBEL7.out.size)); have k8 := str_any w8 A8 P.length c8 _ P HO8.out rfl; rw [HSTR.out] at k8; clear hown hbel)
          | (go_at_call 29; refine (refPack_any A7 L3.length c7 w8.heap.size L3 w8 rfl (by omega) (Nat.le_refl _) (Cells.of_own HBOTH8.out.row)).mono ?_; rintro e w9 ⟨A9, c9, rfl, hown, hbel⟩; rw [HP.out] at hown; rw [HP.out]; have HO9 := Lib.hid (Cells.of_own hown); have HBOTH9 := Lib.hid (HBOTH8.out.below_ hbel); have HBEL9 := Lib.hid (HBEL8.out.trans (hbel.mono HBEL8.out.size)); have k9 := str_any w9 A9 P.length c9 _ P HO9.out rfl; rw [HSTR.out] at k9; have k10 := str_any w9 A8 P.length c8 _ P (HO8.out.below hbel (Nat.le_refl _)) rfl; rw [HSTR.out] at k10; clear hown hbel))
        all_goals
          go_wp2
          go_roundg (gk - 1)
          case measure => omega
          case rel => exact ⟨k + 1, a / 2, L3, S4, by omega, by go_num, rfl, by omega, by omega, hl3, HBOTH9.out, HBEL9.out⟩
      · have ht : (a % 2 == 1) = false := by simp [hal]
        clear hal
        obtain ⟨hc0, hc1⟩ := HCELL.out _ HBEL.out
        go_wp2_with fail
        go_still_tail 10, (by kernel_rfl)
        change wpList _ _ _ _ _ wr.drew
        have HBOTH3 := Lib.hid HBOTH.out.drew
        have HBEL3 := Lib.hid HBEL.out.drew
        clear HBOTH HBEL hc0 hc1
        generalize wr.drew = w3 at *
        go_wp2_with fail
        refine (HPUT.out S L w3 HBOTH3.out.wr (by omega) HBEL3.out.size).mono ?_
        rintro e w4 ⟨rfl, S4, hw, hm, hs⟩
        have HBOTH4 := Lib.hid (HBOTH3.out.put HBEL3.out.size hw hm hs)
        have HBEL4 := Lib.hid (hm.below HBEL3.out HBEL3.out.size HBOTH3.out.from_)
        clear hw hm hs HBOTH3 HBEL3
        obtain ⟨hc0, hc1⟩ := HCELL.out _ HBEL4.out
        go_wp2_with fail
        go_still_tail 11, (by kernel_rfl)
        change wpList _ _ _ _ _ w4.drew
        have HBOTH5 := Lib.hid HBOTH4.out.drew
        have HBEL5 := Lib.hid HBEL4.out.drew
        clear HBOTH4 HBEL4 hc0 hc1
        generalize w4.drew = w5 at *
        go_wp2_with fail
        refine (wput_nil _ _ _).mono ?_
        rintro e w' ⟨rfl, rfl⟩
        go_wp2_with fail
        have S5 := HCELL.out _ HBEL5.out
        go_region_held3 (fun W => W.cell? ⟨b₁, o₁ + k * 2, none⟩ = some (.int .u32 n) ∧ W.cell? ⟨b₁, o₁ + k * 2 + 1, none⟩ = some (.int .i64 b)) (first | exact S5 | exact S6 | exact S7)
          ((first
          | (go_at_call 26; refine (HREF.out _).mono ?_; rintro e w6 ⟨A6, c6, rfl, hown, hbel⟩; have HO6 := Lib.hid (Cells.of_own hown); have HBOTH6 := Lib.hid (HBOTH5.out.drew.below_ hbel); have HBEL6 := Lib.hid (HBEL5.out.drew.trans (hbel.mono HBEL5.out.size)); clear hown hbel; have S6 := HCELL.out _ HBEL6.out)
          | (refine step_app _ byteElem3 (by rfl) (.tmp 52) (.tmp 63) (by rfl) w.heap.size (.slice A L.length c) L.length (byteCells (bitBytes L)) (by rfl) HBOTH6.out.row w6.heap.size A6 NB.length c6 (byteCells (bitBytes NB)) (by rfl) (by rw [byteCells_length, bitBytes_length, Nat.mul_one]) HO6.out (byteCells_one _) (by unfold maxLen; omega) (by omega) HBEL6.out.size ?_; intro A7 c7 w7 hA; have HA := Lib.hid hA; clear hA; have HBEL7 := Lib.hid (HA.out.below HBEL6.out HBEL6.out.size (own_base HBOTH6.out.row)); have S7 := HCELL.out _ HBEL7.out)))
        have happ : App w6 w.heap.size 5 1 (.slice A L.length c) (L ++ NB).length (byteCells (bitBytes (L ++ NB))) w7 (.slice A7 (L.length + NB.length) c7) := by
          rw [List.length_append, bitBytes_append, byteCells_append]
          exact HA.out
        have HBOTH7 := Lib.hid (HBOTH6.out.grow happ)
        have hl3 : (L ++ NB).length ≤ 40 * (k + 1) := by rw [List.length_append]; omega
        have HLN := Lib.hid (show (L ++ NB).length = L.length + NB.length from List.length_append)
        rw [← HLN.out] at HBOTH7 ⊢
        clear happ HA HBOTH6 HBEL6 HO6 HBOTH5 HBEL5 S5 S6 S7 HLN
        generalize L ++ NB = L3 at *
        go_wp2_with fail
        have HPL : Hid ((pack L3).length ≤ L3.length) := pack_length L3
        generalize hP : pack L3 = P at *
        generalize hS : (⟨P.toArray⟩ : ByteArray) = str at *
        have HP := Lib.hid hP
        have HSTR := Lib.hid hS
        clear hP hS
        go_region_with (first
          | (go_at_call 27; refine (wlen_any w.heap.size w.heap.size S4 L3 _ HBOTH7.out.drew.wr (by omega)).mono ?_; rintro e w' ⟨rfl, nd, rfl⟩)
          | (go_at_call 28; refine (wbytes_any w.heap.size w.heap.size S4 L3 _ (HBOTH7.out.drewN (1 + nd)).wr (by omega)).mono ?_; rintro e w8 ⟨A8, c8, rfl, hown, hbel⟩; rw [HP.out] at hown; rw [HP.out]; have HO8 := Lib.hid (Cells.of_own hown); have HBOTH8 := Lib.hid ((HBOTH7.out.drewN (1 + nd)).below_ hbel); have HBEL8 := Lib.hid ((below_drewN HBEL7.out (1 + nd)).trans (hbel.mono HBEL7.out.size)); have k8 := str_any w8 A8 P.length c8 _ P HO8.out rfl; rw [HSTR.out] at k8; clear hown hbel)
          | (go_at_call 29; refine (refPack_any A7 L3.length c7 w8.heap.size L3 w8 rfl (by omega) (Nat.le_refl _) (Cells.of_own HBOTH8.out.row)).mono ?_; rintro e w9 ⟨A9, c9, rfl, hown, hbel⟩; rw [HP.out] at hown; rw [HP.out]; have HO9 := Lib.hid (Cells.of_own hown); have HBOTH9 := Lib.hid (HBOTH8.out.below_ hbel); have HBEL9 := Lib.hid (HBEL8.out.trans (hbel.mono HBEL8.out.size)); have k9 := str_any w9 A9 P.length c9 _ P HO9.out rfl; rw [HSTR.out] at k9; have k10 := str_any w9 A8 P.length c8 _ P (HO8.out.below hbel (Nat.le_refl _)) rfl; rw [HSTR.out] at k10; clear hown hbel))
        all_goals
          go_wp2
          go_roundg (gk - 1)
          case measure => omega
          case rel => exact ⟨k + 1, a / 2, L3, S4, by omega, by go_num, rfl, by omega, by omega, hl3, HBOTH9.out, HBEL9.out⟩
    · obtain rfl : k = l1 := by omega
      go_wp2_with (first
        | (go_at_call 27; refine (wlen_nil _).mono ?_; rintro e w' ⟨rfl, rfl⟩)
        | (go_at_call 28; refine (wbytes_nil _).mono ?_; rintro e w' ⟨rfl, rfl⟩)
        | (go_at_call 22; refine (lives3_any _).mono ?_; rintro e w4 ⟨rfl, hb4⟩; have HB4 := Lib.hid hb4; clear hb4))
      go_ret
      exact ⟨rfl, HBEL.out.trans (HB4.out.mono HBEL.out.size)⟩

theorem writes_all (Y : Option Addr) (l1 cY : Nat) (al : Int) (w : World) (al0 : 0 ≤ al) (al1 : al < 4294967296) (h1 : Lies w (.slice (.cons (.int .u32) (.cons (.int .i64) .nil))) [.slice Y l1 cY]) :
    Calls Try.prog 7 #[.slice Y l1 cY, .int .u32 al] w fun e w' => e = .returned (.bool true) ∧ Below w.heap.size w w' := by
  by_cases h : 100 < l1
  · exact writes_big Y l1 cY al w h
  · obtain ⟨rs, hl1, _, hg, hs, hc⟩ := parts_of_lies h1
    exact writes_walk Y l1 cY al rs w hl1 (by omega) al0 al1 hg hs hc
end Go.Proofs.Ytlbjamnbbkaooaa
